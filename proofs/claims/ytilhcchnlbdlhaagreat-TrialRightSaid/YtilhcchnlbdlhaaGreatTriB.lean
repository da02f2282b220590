/-
  The texts TriA, TriB joined. Conditions: those that each part says at its head.
-/
import Derived.Test.YtilhcchnlbdlhaaGreatEntP
import Derived.Test.YtilhcchnlbdlhaaGreatStru
import Derived.Test.YtilhcchnlbdlhaaGreatBalE
import Derived.Test.YtilhcchnlbdlhaaGreatAnyT
import Derived.BigQuiet
import Derived.Laws.StructEq

/-
  Contracts of trial over a view in memory: Sums, Due, Right. Conditions: what a scan of the year comes to.
-/
namespace Go.Proofs.YtilhcchnlbdlhaaGreat
open Go.RowKit Go.Maps
set_option maxRecDepth 100000
set_option linter.unusedVariables false

def smV (s : Sm) : List Value := [.int .i64 s.f, .int .i64 s.d, .int .i64 s.c]
def SmOk (s : Sm) : Prop := B64 s.f ∧ B64 s.d ∧ B64 s.c
def SmE : Enc Sm := ⟨smV, 3, SmOk, fun _ => rfl, by decide, fun x u hu => by
  unfold smV at hu
  simp only [List.mem_cons, List.not_mem_nil, or_false] at hu
  rcases hu with rfl | rfl | rfl <;> rfl⟩
theorem info_sum : (Tryz.prog.info? 71).map (fun i => (i.zero, i.size, i.bytes)) = some (some (.agg #[.int .i64 0, .int .i64 0, .int .i64 0]), 3, 24) := by kernel_rfl
theorem SmT : SmE.Ty 69 71 := by
  obtain ⟨i0, hi, hz0, hz1, hz2⟩ := info_parts info_sum
  exact ⟨Tryz.underlying69, i0, _, hi, hz0, hz1, by omega, rfl⟩
theorem smAt {w : World} {b off : Nat} {s : Sm} (h : SmE.At w b off s) : w.cell? ⟨b, off, none⟩ = some (.int .i64 s.f) ∧ w.cell? ⟨b, off + 1, none⟩ = some (.int .i64 s.d) ∧ w.cell? ⟨b, off + 2, none⟩ = some (.int .i64 s.c) := ⟨h 0 (by decide), h 1 (by decide), h 2 (by decide)⟩
/-- A row of sums that is not empty: its block, its last sum. -/
theorem smLast {w : World} {base : Nat} {u : Value} {P : List Sm} {s : Sm} (h : SmE.Own 71 w base u (P ++ [s])) (hok : ∀ x ∈ P ++ [s], SmOk x) : ∃ g cap, u = .slice (some ⟨g, 0, none⟩) (P.length + 1) cap ∧ base ≤ g ∧ g < w.heap.size ∧ (∀ o, w.frozen? ⟨g, o, none⟩ = false) ∧ w.cell? ⟨g, P.length * 3, none⟩ = some (.int .i64 s.f) ∧ w.cell? ⟨g, P.length * 3 + 1, none⟩ = some (.int .i64 s.d) ∧ w.cell? ⟨g, P.length * 3 + 2, none⟩ = some (.int .i64 s.c) := by
  have hlen : (P ++ [s]).length = P.length + 1 := by simp
  obtain ⟨A, k, rfl, hk⟩ := h.shape
  obtain ⟨_, _, hr⟩ := h.read hok
  have h' := h
  rcases h'.2 with ⟨e, h0⟩ | ⟨g, cap, cur, e, hb, hg, _⟩
  · rw [hlen] at h0; cases h0
  · injection e with e1 e2 e3
    subst e1 e3
    obtain ⟨b, off, e, hbl, hc⟩ := hr.2.2 (by rw [hlen]; omega)
    injection e with e
    injection e with q1 q2 q3
    subst q1 q2
    obtain ⟨c0, c1, c2⟩ := smAt (hc P.length s (by simp))
    simp only [Nat.zero_add, show SmE.K = 3 from rfl] at c0 c1 c2
    exact ⟨g, k, by rw [hlen], hb, (Array.getElem?_eq_some_iff.1 hg).1, fun o => frozen_of_row w g o _ _ hg, c0, c1, c2⟩
theorem sm_set (P : List Sm) (s : Sm) (j : Nat) (v : Value) (hj : j < 3) : (SmE.all (P ++ [s])).set (P.length * 3 + j) v = SmE.all P ++ (smV s).set j v := by
  rw [Enc.all_append]
  have hl : (SmE.all P).length = P.length * 3 := Enc.all_length P
  rw [List.set_append_right _ _ (by omega), hl, show P.length * 3 + j - P.length * 3 = j by omega]
  congr 1
/-- One cell of a row of sums written: the sum that it tells. -/
theorem smStore {w : World} {base g cap : Nat} {P : List Sm} {s s' : Sm} {j : Nat} {v : Value} (h : SmE.Own 71 w base (.slice (some ⟨g, 0, none⟩) (P.length + 1) cap) (P ++ [s])) (hj : j < 3) (hs : (smV s).set j v = smV s') :
    SmE.Own 71 (w.setCell ⟨g, P.length * 3 + j, none⟩ v) base (.slice (some ⟨g, 0, none⟩) (P.length + 1) cap) (P ++ [s']) := by
  have hlen : (P ++ [s]).length = P.length + 1 := by simp
  have hlen' : (P ++ [s']).length = P.length + 1 := by simp
  have h1 : w.ownsRow base 71 3 (.slice (some ⟨g, 0, none⟩) (P.length + 1) cap) (P.length + 1) (SmE.all (P ++ [s])) := by rw [← hlen]; rw [← hlen] at h; exact h
  have h2 := (h1.stored (P.length * 3 + j) v).1
  rw [sm_set P s j v hj, hs] at h2
  show (w.setCell _ v).ownsRow base 71 3 _ (P ++ [s']).length (SmE.all (P ++ [s']))
  rw [hlen', Enc.all_append]
  exact h2
theorem wrap_64 (z : Int) : IntKind.i64.wrap z = wrap64 z := by rw [IntKind.wrap_i64]; unfold wrap64; rfl
theorem smLast2 {w : World} {base pl : Nat} {u : Value} {P : List Sm} {s : Sm} (h : SmE.Own 71 w base u (P ++ [s])) (hok : ∀ x ∈ P ++ [s], SmOk x) (hpl : P.length = pl) : ∃ g cap, u = .slice (some ⟨g, 0, none⟩) (pl + 1) cap ∧ base ≤ g ∧ g < w.heap.size ∧ (∀ o, w.frozen? ⟨g, o, none⟩ = false) ∧ w.cell? ⟨g, pl * 3, none⟩ = some (.int .i64 s.f) ∧ w.cell? ⟨g, pl * 3 + 1, none⟩ = some (.int .i64 s.d) ∧ w.cell? ⟨g, pl * 3 + 2, none⟩ = some (.int .i64 s.c) := by subst hpl; exact smLast h hok
theorem smStore2 {w : World} {base g cap pl : Nat} {P : List Sm} {s s' : Sm} {j : Nat} {v : Value} (h : SmE.Own 71 w base (.slice (some ⟨g, 0, none⟩) (pl + 1) cap) (P ++ [s])) (hpl : P.length = pl) (hj : j < 3) (hs : (smV s).set j v = smV s') :
    SmE.Own 71 (w.setCell ⟨g, pl * 3 + j, none⟩ v) base (.slice (some ⟨g, 0, none⟩) (pl + 1) cap) (P ++ [s']) := by subst hpl; exact smStore h hj hs
theorem sumIf_snoc (p : Int → Int → Bool) (L : List Ln) (x : Ln) : sumIf p (L ++ [x]) = sumIf p L + if p x.f x.o then x.a else 0 := by
  rw [sumIf_append, sumIf_cons, sumIf_nil, Int.add_zero]
theorem due_from_step {L : List Ln} {k : Nat} {x : Ln} (h : L[k]? = some x) : dueFrom (L.take (k + 1)) = if x.o = 1900 then wrap64 (dueFrom (L.take k) + x.a) else dueFrom (L.take k) := by
  obtain ⟨hk, rfl⟩ := List.getElem?_eq_some_iff.1 h
  rw [List.take_succ_eq_append_getElem hk]
  unfold dueFrom
  rw [sumIf_snoc]
  by_cases e : (L[k]).o = 1900
  · simp only [e, beq_self_eq_true, if_true]
    simp only [IntKind.wrap_i64]
    unfold wrap64
    omega
  · simp [e]
theorem due_to_step {L : List Ln} {k : Nat} {x : Ln} (h : L[k]? = some x) : dueTo (L.take (k + 1)) = if x.o = 2900 then wrap64 (dueTo (L.take k) - x.a) else dueTo (L.take k) := by
  obtain ⟨hk, rfl⟩ := List.getElem?_eq_some_iff.1 h
  rw [List.take_succ_eq_append_getElem hk]
  unfold dueTo
  rw [sumIf_snoc]
  by_cases e : (L[k]).o = 2900
  · simp only [e, beq_self_eq_true, if_true]
    simp only [IntKind.wrap_i64]
    unfold wrap64
    omega
  · simp [e]
section
variable {w w' : World} {v : Nat} {L : List Ln} {y : Int}
/-- What bal.All answers, from a world on. -/
def AllsB (w : World) (v : Nat) (y : Int) (L : List Ln) : Prop := Calls Tryz.prog 61 #[.pointer (some ⟨v, 0, none⟩), .int .i64 y] w fun e w' => ∃ A k, e = .returned (.slice A L.length k) ∧ L.length ≤ k ∧ RL w' w'.heap.size A L.length L ∧ Below w.heap.size w w'
set_option maxHeartbeats 3200000 in
theorem trDue_any (hall : AllsB w v y L) (hl : L.length ≤ 2147483647) :
    Calls Tryz.prog 34 #[.pointer (some ⟨v, 0, none⟩), .int .i64 y] w fun e w' => e = .returned (.tuple #[.int .i64 (dueFrom L), .int .i64 (dueTo L)]) ∧ Below w.heap.size w w' := by
  have HALL := Lib.hid hall
  obtain ⟨n, hn⟩ : ∃ n, n = L.length := ⟨_, rfl⟩
  have HNE := Lib.hid hn
  unfold AllsB at HALL
  rw [← hn] at HALL hl
  clear hall hn
  go_enter Tryz.func34, Tryz.ntmps34
  go_wp2_with fail
  refine HALL.out.mono ?_
  rintro e w2 ⟨A, kc, rfl, hkc, hr, hb2⟩
  have HR := Lib.hid hr
  have HB2 := Lib.hid hb2
  clear hr hb2 HALL
  go_wp2_with fail
  go_loopw [6, 7, 14] (fun fv tv iv wr => ∃ k : Nat, k ≤ n ∧ iv = .int .i64 k ∧ fv = .int .i64 (dueFrom (L.take k)) ∧ tv = .int .i64 (dueTo (L.take k)) ∧ Hid (Below w2.heap.size w2 wr)) (fun _ _ iv _ => n - (intOf iv).toNat)
  case atStart => exact ⟨0, Nat.zero_le _, rfl, rfl, rfl, Lib.hid (Below.refl _ _)⟩
  case round =>
    obtain ⟨k, hk, rfl, rfl, rfl, hbw⟩ := hrel
    by_cases hlt : k < n
    · have hlt' : (k : Int) < (n : Int) := by omega
      obtain ⟨x, hx⟩ : ∃ x, L[k]? = some x := ⟨_, List.getElem?_eq_getElem (by rw [← HNE.out]; exact hlt)⟩
      obtain ⟨b, off, rfl, hb, hat⟩ := (HR.out.below hbw.out).2.2 (by omega)
      obtain ⟨l0, l1, l2, l3⟩ := hat k x hx
      have hf := due_from_step hx
      have ht := due_to_step hx
      have HX := Lib.hid (show Below w2.heap.size w2 (wr.alloc (.cells #[.int .i64 x.f, .int .i64 x.o, .int .i64 x.n, .int .i64 x.a] 30 (0, 0))) from hbw.out.alloc hbw.out.size _)
      have HFT := Lib.hid (And.intro hf ht)
      generalize dueFrom (L.take k) = F at HFT
      generalize dueTo (L.take k) = T at HFT
      obtain ⟨xf, xo, xn, xa⟩ := x
      simp only at l0 l1 l2 l3 HFT
      clear hf ht hat hx hbw
      by_cases h1 : xo = 1900
      · subst h1
        go_wp2_with fail
        go_roundw
        case rel => exact ⟨k + 1, by omega, by go_num, by rw [HFT.out.1, if_pos rfl], by rw [HFT.out.2, if_neg (by decide)], HX⟩
        case measure => simp [intOf]; omega
      · have k1 : (xo == 1900) = false := by simp [h1]
        by_cases h2 : xo = 2900
        · subst h2
          go_wp2_with fail
          go_roundw
          case rel => exact ⟨k + 1, by omega, by go_num, by rw [HFT.out.1, if_neg (by decide)], by rw [HFT.out.2, if_pos rfl], HX⟩
          case measure => simp [intOf]; omega
        · have k2 : (xo == 2900) = false := by simp [h2]
          have HH := Lib.hid (And.intro h1 h2)
          clear h1 h2
          go_wp2_with fail
          go_roundw
          case rel => exact ⟨k + 1, by omega, by go_num, by rw [HFT.out.1, if_neg HH.out.1], by rw [HFT.out.2, if_neg HH.out.2], HX⟩
          case measure => simp [intOf]; omega
    · obtain rfl : k = n := by omega
      have HE := Lib.hid (show L.take k = L from List.take_of_length_le (by rw [← HNE.out]; exact Nat.le_refl _))
      have HBE := Lib.hid (HB2.out.trans (hbw.out.mono HB2.out.size))
      go_wp2
      go_ret2
      rw [HE.out]
      exact ⟨rfl, HBE.out⟩
/-- What Sums gathered: each sum has ints. -/
theorem sumsF_ok {L : List Ln} (h : ∀ x ∈ L, LnOk x) : ∀ s ∈ sumsF L, SmOk s := by
  refine snoc_ind (P := fun L => (∀ x ∈ L, LnOk x) → ∀ s ∈ sumsF L, SmOk s) (fun _ s hs => by cases hs) (fun L x ih hL s hs => ?_) L h
  have ih := ih fun z hz => hL z (List.mem_append_left _ hz)
  have hx := hL x (by simp)
  have z0 : B64 0 := by unfold B64; omega
  have hup : ∀ t, SmOk t → ∀ a, SmOk (upS t a) := fun t ht a => by
    unfold upS
    split
    · exact ⟨ht.1, wrap_in _, ht.2.2⟩
    · exact ⟨ht.1, ht.2.1, wrap_in _⟩
  rw [sumsF_snoc] at hs
  unfold sumStep at hs
  generalize sumsF L = A at ih hs
  split at hs
  · rename_i t ht
    split at hs
    · rcases List.mem_append.1 hs with hs | hs
      · exact ih s (List.dropLast_subset _ hs)
      · obtain rfl := List.mem_singleton.1 hs
        exact hup t (ih t (List.mem_of_getLast? ht)) _
    · rcases List.mem_append.1 hs with hs | hs
      · exact ih s hs
      · obtain rfl := List.mem_singleton.1 hs
        exact hup _ ⟨hx.1, z0, z0⟩ _
  · rcases List.mem_append.1 hs with hs | hs
    · exact ih s hs
    · obtain rfl := List.mem_singleton.1 hs
      exact hup _ ⟨hx.1, z0, z0⟩ _
theorem step_nil (x : Ln) : sumStep [] x = [] ++ [upS ⟨x.f, 0, 0⟩ x.a] := rfl
theorem step_same {P : List Sm} {s : Sm} {x : Ln} (h : s.f = x.f) : sumStep (P ++ [s]) x = P ++ [upS s x.a] := by
  unfold sumStep
  rw [List.getLast?_append, List.getLast?_singleton, List.dropLast_concat]
  exact if_pos h
theorem step_new {P : List Sm} {s : Sm} {x : Ln} (h : s.f ≠ x.f) : sumStep (P ++ [s]) x = (P ++ [s]) ++ [upS ⟨x.f, 0, 0⟩ x.a] := by
  unfold sumStep
  rw [List.getLast?_append, List.getLast?_singleton]
  exact if_neg h
theorem sumsF_take {L : List Ln} {k : Nat} {x : Ln} (h : L[k]? = some x) : sumsF (L.take (k + 1)) = sumStep (sumsF (L.take k)) x := by
  obtain ⟨hk, rfl⟩ := List.getElem?_eq_some_iff.1 h
  rw [List.take_succ_eq_append_getElem hk, sumsF_snoc]
theorem sumsF_len (L : List Ln) : (sumsF L).length ≤ L.length := by
  refine snoc_ind (P := fun L => (sumsF L).length ≤ L.length) (Nat.le_refl _) (fun L x ih => ?_) L
  rw [sumsF_snoc, List.length_append, List.length_singleton]
  unfold sumStep
  generalize sumsF L = A at ih
  split
  · rename_i t ht
    have hpos : 0 < A.length := List.length_pos_of_mem (List.mem_of_getLast? ht)
    split
    · rw [List.length_append, List.length_dropLast, List.length_singleton]; omega
    · rw [List.length_append, List.length_singleton]; omega
  · rw [List.length_append, List.length_singleton]; omega
set_option maxHeartbeats 12800000 in
theorem trSums_any (hall : AllsB w v y L) (hl : L.length ≤ 2147483647) :
    Calls Tryz.prog 36 #[.pointer (some ⟨v, 0, none⟩), .int .i64 y] w fun e w' => ∃ u, e = .returned u ∧ SmE.Own 71 w' w.heap.size u (sumsF L) ∧ (∀ s ∈ sumsF L, SmOk s) ∧ Below w.heap.size w w' := by
  have HALL := Lib.hid hall
  obtain ⟨n, hn⟩ : ∃ n, n = L.length := ⟨_, rfl⟩
  have HNE := Lib.hid hn
  unfold AllsB at HALL
  rw [← hn] at HALL hl
  clear hall hn
  go_enter Tryz.func36, Tryz.ntmps36
  go_wp2_with fail
  refine HALL.out.mono ?_
  rintro e w2 ⟨A, kc, rfl, hkc, hr, hb2⟩
  have HR := Lib.hid hr
  have HB2 := Lib.hid hb2
  have HSO := Lib.hid (sumsF_ok hr.ok)
  clear hr hb2 HALL
  go_wp2_with fail
  go_loopw [5, 13] (fun u iv wr => ∃ k : Nat, k ≤ n ∧ iv = .int .i64 k ∧ Hid (SmE.Own 71 wr w2.heap.size u (sumsF (L.take k))) ∧ Hid (Below w2.heap.size w2 wr)) (fun _ iv _ => n - (intOf iv).toNat)
  case atStart => exact ⟨0, Nat.zero_le _, rfl, Lib.hid (Enc.Own.start _ _ _), Lib.hid (Below.refl _ _)⟩
  case round =>
    obtain ⟨k, hk, rfl, hown, hbw⟩ := hrel
    by_cases hlt : k < n
    · have hlt' : (k : Int) < (n : Int) := by omega
      obtain ⟨x, hx⟩ : ∃ x, L[k]? = some x := ⟨_, List.getElem?_eq_getElem (by rw [← HNE.out]; exact hlt)⟩
      have hrl := HR.out.below hbw.out
      have hxok := hrl.ok x (List.mem_of_getElem? hx)
      have haok := sumsF_ok (L := L.take k) (fun z hz => hrl.ok z (List.mem_of_mem_take hz))
      obtain ⟨b, off, rfl, hb, hat⟩ := hrl.2.2 (by omega)
      obtain ⟨l0, l1, l2, l3⟩ := hat k x hx
      have hst := sumsF_take hx
      have hlenA : (sumsF (L.take k)).length ≤ 2147483647 := Nat.le_trans (sumsF_len _) (by rw [List.length_take]; omega)
      have HO := Lib.hid hown.out
      generalize sumsF (L.take k) = Q at HO hst haok hlenA
      obtain ⟨w4, hw4⟩ : ∃ w4, w4 = wr.alloc (.cells #[.int .i64 x.f, .int .i64 x.o, .int .i64 x.n, .int .i64 x.a] 30 (0, 0)) := ⟨_, rfl⟩
      have hb4 : Below wr.heap.size wr w4 := by rw [hw4]; exact (Below.refl _ _).alloc (Nat.le_refl _) _
      have g4 : w4.heap[wr.heap.size]? = some (.cells #[.int .i64 x.f, .int .i64 x.o, .int .i64 x.n, .int .i64 x.a] 30 (0, 0)) := by rw [hw4]; exact heap_alloc_new wr _
      have hs4 : w4.heap.size = wr.heap.size + 1 := by rw [hw4]; simp
      obtain ⟨gl, hgl⟩ : ∃ gl, gl = wr.heap.size := ⟨_, rfl⟩
      have hb24 := hbw.out.trans (hb4.mono hbw.out.size)
      rw [← hgl] at g4
      have ho4 := HO.out.below hb4
      rcases List.eq_nil_or_concat Q with rfl | ⟨P, s, rfl⟩
      · obtain ⟨A5, k5, hu5, hk5⟩ := ho4.shape
        subst hu5
        obtain ⟨pe, hpe⟩ : ∃ pe, ([] : List Sm).length = pe := ⟨_, rfl⟩
        have HPE := Lib.hid hpe
        have hpe31 : pe ≤ 2147483647 := by rw [← hpe]; exact Nat.zero_le _
        clear hpe
        have HD := Lib.hid (show ∀ q, SmE.Own 71 (w4.drewN q) w2.heap.size (.slice A5 ([] : List Sm).length k5) [] ∧ (w4.drewN q).heap[gl]? = some (.cells #[.int .i64 x.f, .int .i64 x.o, .int .i64 x.n, .int .i64 x.a] 30 (0, 0)) ∧ Below w2.heap.size w2 (w4.drewN q) from fun q => ⟨ho4, g4, ⟨hb24.os, hb24.tape, hb24.output, hb24.size, hb24.block⟩⟩)
        obtain ⟨m0, m1, m2, m3⟩ := balLine_cells g4
        have HST := Lib.hid hst
        have HXO := Lib.hid (And.intro hxok (And.intro haok hlenA))
        have HNB := Lib.hid (show ∀ r, Value.ownBlock (.slice A5 ([] : List Sm).length k5) = some r → r ≠ gl from fun r hr => by have := (HO.out.at_ r hr).2; omega)
        clear ho4 g4 hb24 hb4 hst haok hxok hat hx hrl hbw HO hown hlenA hk5
        simp only [List.length_nil]
        go_wp2_with fail
        rw [← hgl, ← hw4]
        clear hgl hw4
        go_quiet (fail)
        obtain ⟨wd, hwd⟩ : ∃ wd, wd = w4.drewN nq := ⟨_, rfl⟩
        rw [← hwd]
        have hf := HD.out nq
        rw [← hwd] at hf
        obtain ⟨hf1, hf2, hf3⟩ := hf
        clear hwd HD m0 m1 m2 m3
        obtain ⟨q0, _⟩ := balLine_cells hf2
        have hY : Below wd.heap.size wd (wd.alloc (.cells #[.int .i64 x.f, .int .i64 0, .int .i64 0] 71 (0, 0))) := (Below.refl _ _).alloc (Nat.le_refl _) _
        obtain ⟨v', wE, hrun, ownE, hb6, hgrow, _⟩ := (hf1.below hY).append1 SmT (x := ⟨x.f, 0, 0⟩) (heap_alloc_new wd _) rfl (show SmOk ⟨x.f, 0, 0⟩ from ⟨HXO.out.1.1, by unfold B64; simp only []; omega, by unfold B64; simp only []; omega⟩) (Nat.le_trans HXO.out.2.2 (Nat.le_refl _)) (Nat.le_trans hf3.size hY.size) 69
        have okE : ∀ z ∈ [] ++ [(⟨x.f, 0, 0⟩ : Sm)], SmOk z := fun z hz => by
          rcases List.mem_append.1 hz with hz | hz
          · exact HXO.out.2.1 z hz
          · obtain rfl := List.mem_singleton.1 hz
            exact ⟨HXO.out.1.1, by unfold B64; simp only []; omega, by unfold B64; simp only []; omega⟩
        have hglw := (Array.getElem?_eq_some_iff.1 hf2).1
        have boxE := ((hgrow.block gl (Nat.lt_of_lt_of_le hglw hY.size) (fun e => HNB.out gl e.symm rfl)).trans (hY.block gl hglw)).trans hf2
        have belE := (hf3.trans (hY.mono hf3.size)).trans hb6
        have hstE : sumsF (L.take (k + 1)) = [] ++ [upS ⟨x.f, 0, 0⟩ x.a] := by rw [HST.out]; exact step_nil x
        clear hf1 hf2 hf3 hY hb6 hgrow hglw
        obtain ⟨g, cap, hu, hgb, hgl2, hfr, c0, c1, c2⟩ := smLast2 ownE okE HPE.out
        subst hu
        obtain ⟨m0, m1, m2, m3⟩ := balLine_cells boxE
        have HRUN := Lib.hid hrun
        clear hrun
        have hwr : IntKind.i64.wrap (((pe + 1 : Nat) : Int) - 1) = (pe : Int) := by rw [IntKind.wrap_i64]; omega
        have hwr2 : IntKind.i64.wrap ((pe : Int) + 1 - 1) = (pe : Int) := by rw [IntKind.wrap_i64]; omega
        have hi0 : (0 : Int) ≤ (pe : Int) := by omega
        by_cases hp : x.a > 0
        · have k3 : decide (x.a > 0) = true := decide_eq_true hp
          have hup : upS (⟨x.f, 0, 0⟩ : Sm) x.a = ⟨((⟨x.f, 0, 0⟩ : Sm)).f, wrap64 x.a, ((⟨x.f, 0, 0⟩ : Sm)).c⟩ := by unfold upS; rw [if_pos hp, wrap_64]; simp only [Int.zero_add]
          have HN := Lib.hid (show SmE.Own 71 (wE.setCell ⟨g, pe * 3 + 1, none⟩ (.int .i64 (wrap64 x.a))).drew w2.heap.size (.slice (some ⟨g, 0, none⟩) (pe + 1) cap) (sumsF (L.take (k + 1))) ∧ Below w2.heap.size w2 (wE.setCell ⟨g, pe * 3 + 1, none⟩ (.int .i64 (wrap64 x.a))).drew from
            ⟨by rw [hstE, hup]; exact (smStore2 (j := 1) (s := (⟨x.f, 0, 0⟩ : Sm)) (s' := ⟨((⟨x.f, 0, 0⟩ : Sm)).f, wrap64 x.a, ((⟨x.f, 0, 0⟩ : Sm)).c⟩) (v := .int .i64 (wrap64 x.a)) ownE HPE.out (by decide) rfl).below (Below.refl _ _).drew, (belE.setCell hgb _).drew⟩)
          have n1 : wE.drew.cell? ⟨g, pe * 3 + 1, none⟩ = _ := c1
          have n3 : wE.drew.cell? ⟨gl, 3, none⟩ = _ := m3
          have nf : wE.drew.frozen? ⟨g, pe * 3 + 1, none⟩ = false := hfr _
          clear hup hfr ownE okE boxE belE hstE hgl2 hgb hp
          go_wp2_with (at_builtin; refine Lib.wpList_append_run _ rfl _ _ _ _ rfl _ _ rfl rfl _ _ HRUN.out ?_)
          go_region_law (fail)
          all_goals
            go_wp2_with fail
            go_roundw
            case rel => exact ⟨k + 1, by omega, by go_num, Lib.hid HN.out.1, Lib.hid HN.out.2⟩
            case measure => simp [intOf]; omega
        · have k3 : decide (x.a > 0) = false := decide_eq_false hp
          have hup : upS (⟨x.f, 0, 0⟩ : Sm) x.a = ⟨((⟨x.f, 0, 0⟩ : Sm)).f, ((⟨x.f, 0, 0⟩ : Sm)).d, wrap64 (-x.a)⟩ := by unfold upS; rw [if_neg hp, wrap_64]; simp only [Int.zero_sub]
          have HN := Lib.hid (show SmE.Own 71 (wE.setCell ⟨g, pe * 3 + 2, none⟩ (.int .i64 (wrap64 (-x.a)))).drew w2.heap.size (.slice (some ⟨g, 0, none⟩) (pe + 1) cap) (sumsF (L.take (k + 1))) ∧ Below w2.heap.size w2 (wE.setCell ⟨g, pe * 3 + 2, none⟩ (.int .i64 (wrap64 (-x.a)))).drew from
            ⟨by rw [hstE, hup]; exact (smStore2 (j := 2) (s := (⟨x.f, 0, 0⟩ : Sm)) (s' := ⟨((⟨x.f, 0, 0⟩ : Sm)).f, ((⟨x.f, 0, 0⟩ : Sm)).d, wrap64 (-x.a)⟩) (v := .int .i64 (wrap64 (-x.a))) ownE HPE.out (by decide) rfl).below (Below.refl _ _).drew, (belE.setCell hgb _).drew⟩)
          have n1 : wE.drew.cell? ⟨g, pe * 3 + 2, none⟩ = _ := c2
          have n3 : wE.drew.cell? ⟨gl, 3, none⟩ = _ := m3
          have nf : wE.drew.frozen? ⟨g, pe * 3 + 2, none⟩ = false := hfr _
          clear hup hfr ownE okE boxE belE hstE hgl2 hgb hp
          go_wp2_with (at_builtin; refine Lib.wpList_append_run _ rfl _ _ _ _ rfl _ _ rfl rfl _ _ HRUN.out ?_)
          go_region_law (fail)
          all_goals
            go_wp2_with fail
            go_roundw
            case rel => exact ⟨k + 1, by omega, by go_num, Lib.hid HN.out.1, Lib.hid HN.out.2⟩
            case measure => simp [intOf]; omega
      · rw [List.concat_eq_append] at HO hst haok hlenA ho4
        by_cases hs : s.f = x.f
        · have HSX := Lib.hid hs
          obtain ⟨pl, hpl⟩ : ∃ pl, P.length = pl := ⟨_, rfl⟩
          have HPL := Lib.hid hpl
          have hpl31 : pl < 2147483647 := by rw [List.length_append, hpl] at hlenA; exact hlenA
          obtain ⟨g5, cap5, hu5, hgb5, hgl5, hfr5, e0, e1, e2⟩ := smLast2 ho4 haok hpl
          subst hu5
          have hwr5 : IntKind.i64.wrap (((pl + 1 : Nat) : Int) - 1) = (pl : Int) := by rw [IntKind.wrap_i64]; omega
          have hwr6 : IntKind.i64.wrap ((pl : Int) + 1 - 1) = (pl : Int) := by rw [IntKind.wrap_i64]; omega
          have hi5 : (0 : Int) ≤ (pl : Int) := by omega
          have hz5 : ((pl : Int) + 1 == 0) = false := by simp; omega
          have hz6 : (((pl + 1 : Nat) : Int) == 0) = false := by simp; omega
          have HPE := HPL
          have hsx : (s.f != x.f) = false := by simp [hs]
          have HD := Lib.hid (show ∀ q, SmE.Own 71 (w4.drewN q) w2.heap.size (.slice (some ⟨g5, 0, none⟩) (pl + 1) cap5) (P ++ [s]) ∧ (w4.drewN q).heap[gl]? = some (.cells #[.int .i64 x.f, .int .i64 x.o, .int .i64 x.n, .int .i64 x.a] 30 (0, 0)) ∧ Below w2.heap.size w2 (w4.drewN q) from fun q => ⟨ho4, g4, ⟨hb24.os, hb24.tape, hb24.output, hb24.size, hb24.block⟩⟩)
          obtain ⟨m0, m1, m2, m3⟩ := balLine_cells g4
          have HST := Lib.hid hst
          have HXO := Lib.hid (And.intro hxok (And.intro haok hlenA))
          have HNB := Lib.hid (show ∀ r, Value.ownBlock (.slice (some ⟨g5, 0, none⟩) (pl + 1) cap5) = some r → r ≠ gl from fun r hr => by have := (HO.out.at_ r hr).2; omega)
          clear ho4 g4 hb24 hb4 hst haok hxok hat hx hrl hbw HO hown hlenA hgb5 hgl5 hfr5 hs hpl
          go_wp2_with fail
          rw [← hgl, ← hw4]
          clear hgl hw4
          go_quiet (fail)
          obtain ⟨wd, hwd⟩ : ∃ wd, wd = w4.drewN nq := ⟨_, rfl⟩
          rw [← hwd]
          have hf := HD.out nq
          rw [← hwd] at hf
          obtain ⟨hf1, hf2, hf3⟩ := hf
          clear hwd HD m0 m1 m2 m3 e0 e1 e2 hwr5 hwr6 hi5 hz5 hz6 hsx
          have ownE := hf1
          have okE := HXO.out.2.1
          have boxE := hf2
          have belE := hf3
          have hstE : sumsF (L.take (k + 1)) = P ++ [upS s x.a] := by rw [HST.out]; exact step_same HSX.out
          obtain ⟨wE, hwE⟩ : ∃ wE, wE = wd := ⟨_, rfl⟩
          rw [← hwE] at ownE boxE belE ⊢
          clear hf1 hf2 hf3 hwE
          obtain ⟨g, cap, hu, hgb, hgl2, hfr, c0, c1, c2⟩ := smLast2 ownE okE HPE.out
          injection hu with hu1 hu2 hu3
          injection hu1 with hu1
          injection hu1 with hu1 _ _
          subst hu1 hu3
          clear hu2
          obtain ⟨m0, m1, m2, m3⟩ := balLine_cells boxE
          have hwr : IntKind.i64.wrap (((pl + 1 : Nat) : Int) - 1) = (pl : Int) := by rw [IntKind.wrap_i64]; omega
          have hwr2 : IntKind.i64.wrap ((pl : Int) + 1 - 1) = (pl : Int) := by rw [IntKind.wrap_i64]; omega
          have hi0 : (0 : Int) ≤ (pl : Int) := by omega
          by_cases hp : x.a > 0
          · have k3 : decide (x.a > 0) = true := decide_eq_true hp
            have hup : upS (s : Sm) x.a = ⟨((s : Sm)).f, wrap64 (((s : Sm)).d + x.a), ((s : Sm)).c⟩ := by unfold upS; rw [if_pos hp, wrap_64]
            have HN := Lib.hid (show SmE.Own 71 (wE.setCell ⟨g5, pl * 3 + 1, none⟩ (.int .i64 (wrap64 (((s : Sm)).d + x.a)))).drew w2.heap.size (.slice (some ⟨g5, 0, none⟩) (pl + 1) cap5) (sumsF (L.take (k + 1))) ∧ Below w2.heap.size w2 (wE.setCell ⟨g5, pl * 3 + 1, none⟩ (.int .i64 (wrap64 (((s : Sm)).d + x.a)))).drew from
              ⟨by rw [hstE, hup]; exact (smStore2 (j := 1) (s := (s : Sm)) (s' := ⟨((s : Sm)).f, wrap64 (((s : Sm)).d + x.a), ((s : Sm)).c⟩) (v := .int .i64 (wrap64 (((s : Sm)).d + x.a))) ownE HPE.out (by decide) rfl).below (Below.refl _ _).drew, (belE.setCell hgb _).drew⟩)
            have n1 : wE.drew.cell? ⟨g5, pl * 3 + 1, none⟩ = _ := c1
            have n3 : wE.drew.cell? ⟨gl, 3, none⟩ = _ := m3
            have nf : wE.drew.frozen? ⟨g5, pl * 3 + 1, none⟩ = false := hfr _
            clear hup hfr ownE okE boxE belE hstE hgl2 hgb hp
            go_wp2_with fail
            go_region_law (fail)
            all_goals
              go_wp2_with fail
              go_roundw
              case rel => exact ⟨k + 1, by omega, by go_num, Lib.hid HN.out.1, Lib.hid HN.out.2⟩
              case measure => simp [intOf]; omega
          · have k3 : decide (x.a > 0) = false := decide_eq_false hp
            have hup : upS (s : Sm) x.a = ⟨((s : Sm)).f, ((s : Sm)).d, wrap64 (((s : Sm)).c - x.a)⟩ := by unfold upS; rw [if_neg hp, wrap_64]
            have HN := Lib.hid (show SmE.Own 71 (wE.setCell ⟨g5, pl * 3 + 2, none⟩ (.int .i64 (wrap64 (((s : Sm)).c - x.a)))).drew w2.heap.size (.slice (some ⟨g5, 0, none⟩) (pl + 1) cap5) (sumsF (L.take (k + 1))) ∧ Below w2.heap.size w2 (wE.setCell ⟨g5, pl * 3 + 2, none⟩ (.int .i64 (wrap64 (((s : Sm)).c - x.a)))).drew from
              ⟨by rw [hstE, hup]; exact (smStore2 (j := 2) (s := (s : Sm)) (s' := ⟨((s : Sm)).f, ((s : Sm)).d, wrap64 (((s : Sm)).c - x.a)⟩) (v := .int .i64 (wrap64 (((s : Sm)).c - x.a))) ownE HPE.out (by decide) rfl).below (Below.refl _ _).drew, (belE.setCell hgb _).drew⟩)
            have n1 : wE.drew.cell? ⟨g5, pl * 3 + 2, none⟩ = _ := c2
            have n3 : wE.drew.cell? ⟨gl, 3, none⟩ = _ := m3
            have nf : wE.drew.frozen? ⟨g5, pl * 3 + 2, none⟩ = false := hfr _
            clear hup hfr ownE okE boxE belE hstE hgl2 hgb hp
            go_wp2_with fail
            go_region_law (fail)
            all_goals
              go_wp2_with fail
              go_roundw
              case rel => exact ⟨k + 1, by omega, by go_num, Lib.hid HN.out.1, Lib.hid HN.out.2⟩
              case measure => simp [intOf]; omega
        · have HSX := Lib.hid hs
          obtain ⟨pl, hpl⟩ : ∃ pl, P.length = pl := ⟨_, rfl⟩
          have HPL := Lib.hid hpl
          have hpl31 : pl < 2147483647 := by rw [List.length_append, hpl] at hlenA; exact hlenA
          obtain ⟨g5, cap5, hu5, hgb5, hgl5, hfr5, e0, e1, e2⟩ := smLast2 ho4 haok hpl
          subst hu5
          have hwr5 : IntKind.i64.wrap (((pl + 1 : Nat) : Int) - 1) = (pl : Int) := by rw [IntKind.wrap_i64]; omega
          have hwr6 : IntKind.i64.wrap ((pl : Int) + 1 - 1) = (pl : Int) := by rw [IntKind.wrap_i64]; omega
          have hi5 : (0 : Int) ≤ (pl : Int) := by omega
          have hz5 : ((pl : Int) + 1 == 0) = false := by simp; omega
          have hz6 : (((pl + 1 : Nat) : Int) == 0) = false := by simp; omega
          obtain ⟨pe, hpe⟩ : ∃ pe, (P ++ [s]).length = pe := ⟨_, rfl⟩
          have HPE := Lib.hid hpe
          have hpe31 : pe ≤ 2147483647 := by rw [← hpe]; exact hlenA
          have hsx : (s.f != x.f) = true := by simp [hs]
          clear hpe
          have HD := Lib.hid (show ∀ q, SmE.Own 71 (w4.drewN q) w2.heap.size (.slice (some ⟨g5, 0, none⟩) (pl + 1) cap5) (P ++ [s]) ∧ (w4.drewN q).heap[gl]? = some (.cells #[.int .i64 x.f, .int .i64 x.o, .int .i64 x.n, .int .i64 x.a] 30 (0, 0)) ∧ Below w2.heap.size w2 (w4.drewN q) from fun q => ⟨ho4, g4, ⟨hb24.os, hb24.tape, hb24.output, hb24.size, hb24.block⟩⟩)
          obtain ⟨m0, m1, m2, m3⟩ := balLine_cells g4
          have HST := Lib.hid hst
          have HXO := Lib.hid (And.intro hxok (And.intro haok hlenA))
          have HNB := Lib.hid (show ∀ r, Value.ownBlock (.slice (some ⟨g5, 0, none⟩) (pl + 1) cap5) = some r → r ≠ gl from fun r hr => by have := (HO.out.at_ r hr).2; omega)
          clear ho4 g4 hb24 hb4 hst haok hxok hat hx hrl hbw HO hown hlenA hgb5 hgl5 hfr5 hs hpl
          go_wp2_with fail
          rw [← hgl, ← hw4]
          clear hgl hw4
          go_quiet (fail)
          obtain ⟨wd, hwd⟩ : ∃ wd, wd = w4.drewN nq := ⟨_, rfl⟩
          rw [← hwd]
          have hf := HD.out nq
          rw [← hwd] at hf
          obtain ⟨hf1, hf2, hf3⟩ := hf
          clear hwd HD m0 m1 m2 m3 e0 e1 e2 hwr5 hwr6 hi5 hz5 hz6 hsx
          obtain ⟨q0, _⟩ := balLine_cells hf2
          have hY : Below wd.heap.size wd (wd.alloc (.cells #[.int .i64 x.f, .int .i64 0, .int .i64 0] 71 (0, 0))) := (Below.refl _ _).alloc (Nat.le_refl _) _
          obtain ⟨v', wE, hrun, ownE, hb6, hgrow, _⟩ := (hf1.below hY).append1 SmT (x := ⟨x.f, 0, 0⟩) (heap_alloc_new wd _) rfl (show SmOk ⟨x.f, 0, 0⟩ from ⟨HXO.out.1.1, by unfold B64; simp only []; omega, by unfold B64; simp only []; omega⟩) (Nat.le_trans HXO.out.2.2 (Nat.le_refl _)) (Nat.le_trans hf3.size hY.size) 69
          have okE : ∀ z ∈ (P ++ [s]) ++ [(⟨x.f, 0, 0⟩ : Sm)], SmOk z := fun z hz => by
            rcases List.mem_append.1 hz with hz | hz
            · exact HXO.out.2.1 z hz
            · obtain rfl := List.mem_singleton.1 hz
              exact ⟨HXO.out.1.1, by unfold B64; simp only []; omega, by unfold B64; simp only []; omega⟩
          have hglw := (Array.getElem?_eq_some_iff.1 hf2).1
          have boxE := ((hgrow.block gl (Nat.lt_of_lt_of_le hglw hY.size) (fun e => HNB.out gl e.symm rfl)).trans (hY.block gl hglw)).trans hf2
          have belE := (hf3.trans (hY.mono hf3.size)).trans hb6
          have hstE : sumsF (L.take (k + 1)) = (P ++ [s]) ++ [upS ⟨x.f, 0, 0⟩ x.a] := by rw [HST.out]; exact step_new HSX.out
          clear hf1 hf2 hf3 hY hb6 hgrow hglw
          obtain ⟨g, cap, hu, hgb, hgl2, hfr, c0, c1, c2⟩ := smLast2 ownE okE HPE.out
          subst hu
          obtain ⟨m0, m1, m2, m3⟩ := balLine_cells boxE
          have HRUN := Lib.hid hrun
          clear hrun
          have hwr : IntKind.i64.wrap (((pe + 1 : Nat) : Int) - 1) = (pe : Int) := by rw [IntKind.wrap_i64]; omega
          have hwr2 : IntKind.i64.wrap ((pe : Int) + 1 - 1) = (pe : Int) := by rw [IntKind.wrap_i64]; omega
          have hi0 : (0 : Int) ≤ (pe : Int) := by omega
          by_cases hp : x.a > 0
          · have k3 : decide (x.a > 0) = true := decide_eq_true hp
            have hup : upS (⟨x.f, 0, 0⟩ : Sm) x.a = ⟨((⟨x.f, 0, 0⟩ : Sm)).f, wrap64 x.a, ((⟨x.f, 0, 0⟩ : Sm)).c⟩ := by unfold upS; rw [if_pos hp, wrap_64]; simp only [Int.zero_add]
            have HN := Lib.hid (show SmE.Own 71 (wE.setCell ⟨g, pe * 3 + 1, none⟩ (.int .i64 (wrap64 x.a))).drew w2.heap.size (.slice (some ⟨g, 0, none⟩) (pe + 1) cap) (sumsF (L.take (k + 1))) ∧ Below w2.heap.size w2 (wE.setCell ⟨g, pe * 3 + 1, none⟩ (.int .i64 (wrap64 x.a))).drew from
              ⟨by rw [hstE, hup]; exact (smStore2 (j := 1) (s := (⟨x.f, 0, 0⟩ : Sm)) (s' := ⟨((⟨x.f, 0, 0⟩ : Sm)).f, wrap64 x.a, ((⟨x.f, 0, 0⟩ : Sm)).c⟩) (v := .int .i64 (wrap64 x.a)) ownE HPE.out (by decide) rfl).below (Below.refl _ _).drew, (belE.setCell hgb _).drew⟩)
            have n1 : wE.drew.cell? ⟨g, pe * 3 + 1, none⟩ = _ := c1
            have n3 : wE.drew.cell? ⟨gl, 3, none⟩ = _ := m3
            have nf : wE.drew.frozen? ⟨g, pe * 3 + 1, none⟩ = false := hfr _
            clear hup hfr ownE okE boxE belE hstE hgl2 hgb hp
            go_wp2_with (at_builtin; refine Lib.wpList_append_run _ rfl _ _ _ _ rfl _ _ rfl rfl _ _ HRUN.out ?_)
            go_region_law (fail)
            all_goals
              go_wp2_with fail
              go_roundw
              case rel => exact ⟨k + 1, by omega, by go_num, Lib.hid HN.out.1, Lib.hid HN.out.2⟩
              case measure => simp [intOf]; omega
          · have k3 : decide (x.a > 0) = false := decide_eq_false hp
            have hup : upS (⟨x.f, 0, 0⟩ : Sm) x.a = ⟨((⟨x.f, 0, 0⟩ : Sm)).f, ((⟨x.f, 0, 0⟩ : Sm)).d, wrap64 (-x.a)⟩ := by unfold upS; rw [if_neg hp, wrap_64]; simp only [Int.zero_sub]
            have HN := Lib.hid (show SmE.Own 71 (wE.setCell ⟨g, pe * 3 + 2, none⟩ (.int .i64 (wrap64 (-x.a)))).drew w2.heap.size (.slice (some ⟨g, 0, none⟩) (pe + 1) cap) (sumsF (L.take (k + 1))) ∧ Below w2.heap.size w2 (wE.setCell ⟨g, pe * 3 + 2, none⟩ (.int .i64 (wrap64 (-x.a)))).drew from
              ⟨by rw [hstE, hup]; exact (smStore2 (j := 2) (s := (⟨x.f, 0, 0⟩ : Sm)) (s' := ⟨((⟨x.f, 0, 0⟩ : Sm)).f, ((⟨x.f, 0, 0⟩ : Sm)).d, wrap64 (-x.a)⟩) (v := .int .i64 (wrap64 (-x.a))) ownE HPE.out (by decide) rfl).below (Below.refl _ _).drew, (belE.setCell hgb _).drew⟩)
            have n1 : wE.drew.cell? ⟨g, pe * 3 + 2, none⟩ = _ := c2
            have n3 : wE.drew.cell? ⟨gl, 3, none⟩ = _ := m3
            have nf : wE.drew.frozen? ⟨g, pe * 3 + 2, none⟩ = false := hfr _
            clear hup hfr ownE okE boxE belE hstE hgl2 hgb hp
            go_wp2_with (at_builtin; refine Lib.wpList_append_run _ rfl _ _ _ _ rfl _ _ rfl rfl _ _ HRUN.out ?_)
            go_region_law (fail)
            all_goals
              go_wp2_with fail
              go_roundw
              case rel => exact ⟨k + 1, by omega, by go_num, Lib.hid HN.out.1, Lib.hid HN.out.2⟩
              case measure => simp [intOf]; omega
    · obtain rfl : k = n := by omega
      have HE := Lib.hid (show L.take k = L from List.take_of_length_le (by rw [← HNE.out]; exact Nat.le_refl _))
      have HF := Lib.hid (And.intro (hown.out.base_le HB2.out.size) (HB2.out.trans (hbw.out.mono HB2.out.size)))
      clear hown
      go_wp2
      go_ret
      have := HF.out.1
      rw [HE.out] at this
      exact ⟨_, rfl, this, HSO.out, HF.out.2⟩
end
end Go.Proofs.YtilhcchnlbdlhaaGreat

/-
  Contract of trial.Right where all is level; slices.Equal over sums. Conditions: what a scan of the year comes to; few lines.
-/
namespace Go.Proofs.YtilhcchnlbdlhaaGreat
open Go.RowKit Go.Maps
set_option maxRecDepth 100000
set_option linter.unusedVariables false

theorem sm_all (x y : Sm) : (x = y) ↔ x.f = y.f ∧ x.d = y.d ∧ x.c = y.c :=
  ⟨fun h => by rw [h]; exact ⟨rfl, rfl, rfl⟩, fun ⟨h0, h1, h2⟩ => by cases x; cases y; simp_all⟩
instance smDec : DecidableEq Sm := fun x y => decidable_of_iff _ (sm_all x y).symm
/-- Two sums compared, as the program compares them. -/
theorem same_sum (x y : Sm) (W : World) : (Op.equalIn 10000 71 (.agg (smV x).toArray) (.agg (smV y).toArray)).run Tryz.prog W = .ok (decide (x = y)) W := by
  have u3 := Tryz.underlying3
  have a3 := Tryz.isAgg3
  have z3 := Tryz.sizeOf3
  have hS : Tryz.prog.underlying 71 = some (.struct (Tryz.prog.fieldsOf 71)) := by kernel_rfl
  have hp : Tryz.prog.stoodInHeld 71 = false := by kernel_rfl
  obtain ⟨a0, a1, a2⟩ := x
  obtain ⟨b0, b1, b2⟩ := y
  have hd : decide ((⟨a0, a1, a2⟩ : Sm) = ⟨b0, b1, b2⟩) = (a0 == b0 && a1 == b1 && a2 == b2) := by
    rw [Bool.eq_iff_iff, decide_eq_true_iff, sm_all]
    simp only [Bool.and_eq_true, beq_iff_eq, and_assoc]
  rw [hd, show (10000 : Nat) = 9999 + 1 from rfl, run_equalIn_agg W 9999 71 _ _ hS hp]
  simp only [Program.fieldsOf, Tryz.underlying71, smV]
  go_simp
  by_cases h0 : a0 = b0
  case neg => simp [h0]
  subst h0
  by_cases h1 : a1 = b1
  case neg => simp [h1]
  subst h1
  by_cases h2 : a2 = b2
  case neg => simp [h2]
  subst h2
  simp
section
variable {w w' : World} {v : Nat} {L : List Ln} {y : Int}
set_option maxHeartbeats 3200000 in
theorem trRight_any (hall : ∀ W, Below w.heap.size w W → AllsB W v y L) (hl : L.length ≤ 2147483647) (hs : ∀ s ∈ sumsF L, s.d = s.c) (hd : dueFrom L = dueTo L) :
    Calls Tryz.prog 13 #[.pointer (some ⟨v, 0, none⟩), .int .i64 y] w fun e w' => e = .returned (.bool true) ∧ Below w.heap.size w w' := by
  have HS := Lib.hid (trSums_any (hall w (Below.refl _ _)) hl)
  have HD := Lib.hid (show ∀ W, Below w.heap.size w W → Calls Tryz.prog 34 #[.pointer (some ⟨v, 0, none⟩), .int .i64 y] W fun e w' => e = .returned (.tuple #[.int .i64 (dueFrom L), .int .i64 (dueFrom L)]) ∧ Below W.heap.size W w' from fun W hW => by
    have := trDue_any (hall W hW) hl
    rwa [← hd] at this)
  have HEQ := Lib.hid hs
  have hlen := sumsF_len L
  generalize dueFrom L = D at HD
  generalize sumsF L = Q at HS HEQ hlen
  obtain ⟨n, hn⟩ : ∃ n, n = Q.length := ⟨_, rfl⟩
  have hn31 : n ≤ 2147483647 := by omega
  have HNE := Lib.hid hn
  clear hall hs hd hlen hn hl
  go_enter Tryz.func13, Tryz.ntmps13
  go_wp2_with fail
  refine HS.out.mono ?_
  rintro e w2 ⟨u, rfl, hown, hok, hb2⟩
  obtain ⟨A, kc, rfl, hkc⟩ := hown.shape
  have HR := Lib.hid (hown.read hok).2.2
  have HB2 := Lib.hid hb2
  rw [← HNE.out] at HR hkc ⊢
  clear hown hok hb2 HS
  go_wp2_with fail
  go_loopw [13] (fun iv wr => ∃ k : Nat, k ≤ n ∧ iv = .int .i64 k ∧ Hid (Below w2.heap.size w2 wr)) (fun iv _ => n - (intOf iv).toNat)
  case atStart => exact ⟨0, Nat.zero_le _, rfl, Lib.hid (Below.refl _ _)⟩
  case round =>
    obtain ⟨k, hk, rfl, hbw⟩ := hrel
    by_cases hlt : k < n
    · have hlt' : (k : Int) < (n : Int) := by omega
      obtain ⟨x, hx⟩ : ∃ x, Q[k]? = some x := ⟨_, List.getElem?_eq_getElem (by rw [← HNE.out]; exact hlt)⟩
      have hdc := HEQ.out x (List.mem_of_getElem? hx)
      obtain ⟨b, off, rfl, hb, hat⟩ := (HR.out.below hbw.out).2.2 (by omega)
      have hat := hat k x hx
      rw [show SmE.K = 3 from rfl] at hat
      obtain ⟨c0, c1, c2⟩ := smAt hat
      obtain ⟨xf, xd, xc⟩ := x
      simp only at c0 c1 c2 hdc
      subst hdc
      have HX := Lib.hid (show Below w2.heap.size w2 (wr.alloc (.cells #[.int .i64 xf, .int .i64 xd, .int .i64 xd] 71 (0, 0))) from hbw.out.alloc hbw.out.size _)
      have heq : (xd != xd) = false := by simp
      clear hat hx hbw
      go_wp2_with fail
      go_roundw
      case rel => exact ⟨k + 1, by omega, by go_num, HX⟩
      case measure => simp [intOf]; omega
    · obtain rfl : k = n := by omega
      have HD2 := Lib.hid (HD.out wr (HB2.out.trans (hbw.out.mono HB2.out.size)))
      have HBE := Lib.hid (HB2.out.trans (hbw.out.mono HB2.out.size))
      have hee : (D == D) = true := by simp
      go_wp2_with fail
      refine HD2.out.mono ?_
      rintro e w5 ⟨rfl, hb5⟩
      have HE := Lib.hid (HBE.out.trans (hb5.mono HBE.out.size))
      clear hb5
      go_wp2_with fail
      go_ret
      exact ⟨rfl, HE.out⟩
end
section
variable {w w' : World} {A A' : Option Addr} {n m k B B' : Nat} {l l' : List Sm}
theorem below_drewSm {B : Nat} {w w' : World} (h : Below B w w') : ∀ n, Below B w (w'.drewN n) := fun n => ⟨h.os, h.tape, h.output, h.size, h.block⟩
set_option maxHeartbeats 1600000 in
theorem EqualSm_any (c d : Nat) (hr : SmE.R w B A n l) (hr' : SmE.R w B' A' m l') (hm : n ≤ maxLen) (hm' : m ≤ maxLen) (hB : B ≤ w.heap.size) (hB' : B' ≤ w.heap.size) :
    Calls Tryz.prog 35 #[.slice A n c, .slice A' m d] w fun e w' => e = .returned (.bool (decide (l = l'))) ∧ Below w.heap.size w w' := by
  unfold maxLen at hm hm'
  have hlen := hr.len
  have hlen' := hr'.len
  have HR := Lib.hid (And.intro hr hr')
  clear hr hr'
  by_cases hnm : n = m
  · subst hnm
    have hne : ((n : Int) != (n : Int)) = false := by simp
    go_enter Tryz.func35, Tryz.ntmps35
    go_wp2
    go_loopw [13] (fun i wr => ∃ k : Nat, k ≤ n ∧ i = .int .i64 k ∧ Hid (∀ j, j < k → l[j]? = l'[j]?) ∧ Below w.heap.size w wr) (fun i _ => n - (intOf i).toNat)
    case atStart => exact ⟨0, Nat.zero_le _, rfl, Lib.hid (fun j hj => absurd hj (by omega)), Below.refl _ _⟩
    case round =>
      obtain ⟨k, hk, rfl, hbef, hbw⟩ := hrel
      by_cases hlt : k < n
      · obtain ⟨x, hx⟩ : ∃ x, l[k]? = some x := ⟨_, List.getElem?_eq_getElem (by omega)⟩
        obtain ⟨y, hy⟩ : ∃ y, l'[k]? = some y := ⟨_, List.getElem?_eq_getElem (by omega)⟩
        obtain ⟨b, off, rfl, hb, hcell⟩ := HR.out.1.2.2 (by omega)
        obtain ⟨b', off', rfl, hb', hcell'⟩ := HR.out.2.2.2 (by omega)
        obtain ⟨c0, c1, c2⟩ := smAt ((hcell k x hx).keep hb (fun b o hbb => hbw.cell (p := ⟨b, o, none⟩) (Nat.lt_of_lt_of_le hbb hB)))
        obtain ⟨d0, d1, d2⟩ := smAt ((hcell' k y hy).keep hb' (fun b o hbb => hbw.cell (p := ⟨b, o, none⟩) (Nat.lt_of_lt_of_le hbb hB')))
        have HXY := Lib.hid (And.intro hx hy)
        have HBW := Lib.hid hbw
        clear hcell hcell' hx hy hbw
        have hlt' : (k : Int) < (n : Int) := by omega
        have hcmp := same_sum x y
        have hK : SmE.K = 3 := rfl
        rw [hK] at c0 d0 c1 d1 c2 d2
        clear hK
        by_cases hv : x = y
        · have hn := Lib.hid (fun j (hj : j < k + 1) => show l[j]? = l'[j]? by
            rcases Nat.lt_or_ge j k with h | h
            · exact hbef.out j h
            · obtain rfl : j = k := by omega
              rw [HXY.out.1, HXY.out.2, hv])
          rw [decide_eq_true hv] at hcmp
          obtain ⟨x0, x1, x2⟩ := x
          obtain ⟨y0, y1, y2⟩ := y
          simp only [smV] at c0 d0 c1 d1 c2 d2 hcmp
          clear hv
          go_wp2_with fail
          go_quiet (fail)
          go_wp2
          go_roundw
          case rel => exact ⟨k + 1, by omega, by go_num, hn, below_drewSm HBW.out _⟩
          case measure => simp [intOf]; omega
        · have hd := Lib.hid (show decide (l = l') = false by
            have : ¬ l = l' := fun e => hv (by
              have h1 := HXY.out.1
              rw [e, HXY.out.2] at h1
              exact (Option.some.inj h1).symm)
            simpa using this)
          rw [decide_eq_false hv] at hcmp
          obtain ⟨x0, x1, x2⟩ := x
          obtain ⟨y0, y1, y2⟩ := y
          simp only [smV] at c0 d0 c1 d1 c2 d2 hcmp
          clear hv
          go_wp2_with fail
          go_quiet (fail)
          go_wp2
          go_ret
          rw [hd.out]
          exact ⟨rfl, below_drewSm HBW.out _⟩
      · obtain rfl : k = n := by omega
        have hd := Lib.hid (show decide (l = l') = true by
          have : l = l' := List.ext_getElem? fun j => by
            rcases Nat.lt_or_ge j k with h | h
            · exact hbef.out j h
            · rw [List.getElem?_eq_none (by omega), List.getElem?_eq_none (by omega)]
          simpa using this)
        go_wp2
        go_ret
        rw [hd.out]
        exact ⟨rfl, hbw⟩
  · have hne : ((n : Int) != (m : Int)) = true := by simp; omega
    have hd : decide (l = l') = false := by
      have : ¬ l = l' := fun e => hnm (by rw [← hlen, ← hlen', e])
      simpa using this
    rw [hd]
    clear hd hnm
    go_enter Tryz.func35, Tryz.ntmps35
    go_wp2
    go_ret
    exact ⟨rfl, Below.refl _ _⟩
end
end Go.Proofs.YtilhcchnlbdlhaaGreat
