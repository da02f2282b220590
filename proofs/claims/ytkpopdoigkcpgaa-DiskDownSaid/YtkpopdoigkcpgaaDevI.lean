/-
  The program's Flush, standsIn and Crash by contract. No condition.
-/
import Derived.Test.YtkpopdoigkcpgaaDevH
namespace Go.Proofs.Ytkpopdoigkcpgaa
open Go.RowKit
set_option linter.unusedVariables false

theorem flush1_any (t : Int) (w : World) : Calls Try.prog 42 #[.int .i64 t] w fun e w' => e = .returned (.bool true) ∧ Below w.heap.size w w' := by
  go_enter Try.func42, Try.ntmps42
  go_wp2
  go_ret
  exact ⟨rfl, Below.refl _ _⟩

theorem settled_all {S : DS} (h : S.Ok) (hd : S.down = false) : S.settled (fun _ => true) = S.flush := by
  have e : safeK S (fun _ => true) S.pend.length = S.last := by
    funext j
    by_cases hj : j ∈ S.pend
    · unfold safeK
      obtain ⟨t, ht, e⟩ := List.getElem_of_mem hj
      rw [if_pos ⟨t, ht, by rw [List.getElem?_eq_getElem ht, e], rfl⟩]
    · unfold safeK
      rw [if_neg (fun ⟨t, _, h1, _⟩ => hj (List.mem_of_getElem? h1))]
      exact (h.same j hj).symm
  unfold DS.settled DS.flush
  rw [e, if_neg (by simp [hd])]

set_option maxHeartbeats 800000 in
theorem flush_dev (w : World) (F : Nat → Prop) (p : Addr) (S : DS) (h : DAt w F p S) : Calls Try.prog 20 #[.pointer (some p)] w fun e w' => e = .returned (.int .i64 S.flushE) ∧ After F w w' p S.flush := by
  have h0 := h
  obtain ⟨b, sb, fb, left, pv, sN, fN, sf, ff, rfl, hrow, hrest, harm, hok, hdom, hcnt, hFb, hlt, c0, c1, c2, c3, c4, c5, c6⟩ := h.parts
  have hn : (0 : Int) < (S.n : Int) := by have := hok.size; omega
  by_cases hd : S.down = true
  · have e1 : S.flushE = 5 := by simp [DS.flushE, hd]
    have e2 : S.flush = S := by simp [DS.flush, hd]
    rw [e1, e2]
    have HE := Lib.hid (After.same h0)
    rw [hd] at c1
    clear h h0 hrow hrest hdom hlt e1 e2
    go_enter Try.func20, Try.ntmps20
    go_wp2_with fail
    refine (ready_down c1 c2 hn).mono ?_
    rintro e w1 ⟨rfl, rfl⟩
    go_wp2
    go_ret
    exact ⟨rfl, HE.out⟩
  · have hd' : S.down = false := by simpa using hd
    have e1 : S.flushE = 0 := by simp [DS.flushE, hd']
    rw [e1, ← settled_all hok hd']
    rw [hd'] at c1
    have HS := Lib.hid (settle_all (fun _ => true) (fun _ => True) w F ⟨b, 0, none⟩ S h0 trivial (fun _ _ _ _ _ _ => trivial) (fun t w1 _ _ => flush1_any t w1))
    clear h h0 hrow hrest hdom hlt e1
    go_enter Try.func20, Try.ntmps20
    go_wp2_with fail
    refine (ready_ok c1 c2 hn).mono ?_
    rintro e w1 ⟨rfl, rfl⟩
    go_wp2_with fail
    refine HS.out.mono ?_
    rintro e w2 ⟨rfl, ha⟩
    go_wp2
    go_ret
    exact ⟨rfl, ha⟩

/-- A set of places: which whole numbers stand among the first k. -/
def Places (l : List Int) (k : Nat) : Int → Option Value := fun i => if i ∈ l.take k then some (.agg #[]) else none
theorem places_step {l : List Int} {k : Nat} {i : Int} (h : l[k]? = some i) : (fun j => if j = i then some (Value.agg #[]) else Places l k j) = Places l (k + 1) := by
  funext j
  unfold Places
  have e : l.take (k + 1) = l.take k ++ [i] := by rw [List.take_add_one, h]; rfl
  rw [e]
  by_cases hj : j = i
  · subst hj; simp
  · rw [if_neg hj]
    simp [hj]

theorem zero_unit (w : World) : (zeroValue 81).run Try.prog w = .ok (.agg #[]) w := by kernel_rfl

theorem run_makeMap_int {P : Program} {t k e : TypeId} (ht : P.underlying t = some (.map k e)) (n : Int) (w : World) : (Instr.makeMap t (some (.int .i64 n))).run P w = .ok (.map (some w.heap.size)) (w.alloc (.map #[] 0)) := by
  simp [Instr.makeMap, run_underlying ht, asInt, asIntOf]

set_option maxHeartbeats 1600000 in
theorem standsIn_any (A : Option Addr) (n c B : Nat) (l : List Int) (w : World) (hr : RI w B A n l) (hm : n ≤ maxLen) :
    Calls Try.prog 43 #[.slice A n c] w fun e w' => ∃ pc pm, e = .returned (.func (.func 50) #[] #[.pointer (some ⟨pc, 0, none⟩)]) ∧ w'.heap[pc]? = some (.cells #[.map (some pm)] 80) ∧ IMap w' pm n (Places l n) ∧ w.heap.size ≤ pc ∧ w.heap.size ≤ pm ∧ Below w.heap.size w w' := by
  have hmk := run_makeMap_int (P := Try.prog) Try.underlying80 (n : Int)
  unfold maxLen at hm
  have HR := Lib.hid hr
  clear hr
  go_enter Try.func43, Try.ntmps43
  go_wp2
  go_loopw [11] (fun i wr => ∃ k : Nat, k ≤ n ∧ i = .int .i64 k ∧ Hid (wr.heap[w.heap.size + 1]? = some (.cells #[.map (some w.heap.size)] 80) ∧ IMap wr w.heap.size k (Places l k) ∧ Below w.heap.size w wr)) (fun i _ => n - (intOf i).toNat)
  case atStart =>
    refine ⟨0, Nat.zero_le _, rfl, Lib.hid ⟨?_, ?_, ((Below.refl _ _).alloc (Nat.le_refl _) _).alloc (by simp) _⟩⟩
    · have h := heap_alloc_new (w.alloc (.map #[] 0)) (.cells #[.map (some w.heap.size)] 80)
      simpa using h
    · have h := (IMap.made w).of_block (w' := (w.alloc (.map #[] 0)).alloc (.cells #[.map (some w.heap.size)] 80)) (heap_alloc_old _ _ (by simp))
      refine h.congr (fun i => ?_)
      simp [Places]
  case round =>
    obtain ⟨k, hk, rfl, hM⟩ := hrel
    obtain ⟨hpc, him, hb⟩ := hM.out
    by_cases hlt : k < n
    · have hlt' : (k : Int) < (n : Int) := by omega
      obtain ⟨ab, ao, rfl, hab, hcell⟩ := HR.out.2.2 (by omega)
      have hck := (World.cell?_of_block (a := ⟨ab, ao + k, none⟩) (hb.block ab (cell_lt (hcell k hlt)))).trans (hcell k hlt)
      have hlk : l[k]? = some (l[k]?.getD 0) := by rw [List.getElem?_eq_getElem (by have := HR.out.len; omega)]; rfl
      have hrange := HR.out.2.1 _ (List.mem_of_getElem? hlk)
      have hst := places_step hlk
      have hcp : wr.cell? ⟨w.heap.size + 1, 0, none⟩ = some (.map (some w.heap.size)) := by
        rw [cell_of_row wr _ 0 _ _ (0, 0) hpc]
        rfl
      generalize l[k]?.getD 0 = x at hck hrange hst
      obtain ⟨w2, hrun, him2, hg⟩ := him.store Try.underlying80 (by unfold maxLen; omega) hrange (.agg #[])
      have hM2 := Lib.hid (show w2.heap[w.heap.size + 1]? = some (.cells #[.map (some w.heap.size)] 80) ∧ IMap w2 w.heap.size (k + 1) (Places l (k + 1)) ∧ Below w.heap.size w w2 from
        ⟨(hg.block _ (Array.getElem?_eq_some_iff.1 hpc).1 (fun e => by injection e with e; omega)).trans hpc, by rw [← hst]; exact him2, hb.grown hg hb.size (fun k hk => by injection hk with hk; omega)⟩)
      clear hcell hlk him hpc hb him2 hg hst hmk hM hab
      go_wp2
      go_roundw
      case rel => exact ⟨k + 1, by omega, by go_num, hM2⟩
      case measure => simp [intOf]; omega
    · obtain rfl : k = n := by omega
      clear hmk
      go_wp2
      go_ret
      exact ⟨w.heap.size + 1, w.heap.size, rfl, hpc, him, by omega, Nat.le_refl _, hb⟩

theorem places_get (l : List Int) (n : Nat) (i : Int) : (Places l n i).getD (.agg #[]) = .agg #[] ∧ (Places l n i).isSome = decide (i ∈ l.take n) := by
  unfold Places
  by_cases h : i ∈ l.take n <;> simp [h]

set_option maxHeartbeats 400000 in
theorem stands_any {pc pm n : Nat} {l : List Int} (t : Int) (w : World) (hpc : w.heap[pc]? = some (.cells #[.map (some pm)] 80)) (him : IMap w pm n (Places l n)) (ht : -9223372036854775808 ≤ t ∧ t ≤ 9223372036854775807) :
    Calls Try.prog 50 #[.int .i64 t, .pointer (some ⟨pc, 0, none⟩)] w fun e w' => e = .returned (.bool (decide (t ∈ l.take n))) ∧ Below w.heap.size w w' := by
  have hcp : w.cell? ⟨pc, 0, none⟩ = some (.map (some pm)) := by
    rw [cell_of_row w pc 0 _ _ (0, 0) hpc]
    rfl
  have q := him.look Try.underlying80 (zero_unit w) ht
  obtain ⟨e1, e2⟩ := places_get l n t
  rw [e1, e2] at q
  clear him hpc e1 e2
  go_enter Try.func50, Try.ntmps50
  go_wp2
  go_ret
  exact ⟨rfl, (Below.refl _ _).alloc (Nat.le_refl _) _⟩

open Classical in
theorem settled_crash {S : DS} (l : List Int) : { S.settled (fun t => decide ((t : Int) ∈ l)) with arm := none, down := false } = S.crash l := by
  have e : safeK S (fun t => decide ((t : Int) ∈ l)) S.pend.length = fun i => if S.kept l i then S.last i else S.safe i := by
    funext j
    unfold safeK
    have h : Kept S (fun t => decide ((t : Int) ∈ l)) S.pend.length j ↔ S.kept l j := by
      constructor
      · rintro ⟨t, _, h1, h2⟩
        exact ⟨t, h1, of_decide_eq_true h2⟩
      · rintro ⟨t, h1, h2⟩
        exact ⟨t, (List.getElem?_eq_some_iff.1 h1).1, h1, decide_eq_true h2⟩
    by_cases hk : S.kept l j
    · rw [if_pos hk, if_pos (h.2 hk)]
    · rw [if_neg hk, if_neg (fun h' => hk (h.1 h'))]
  unfold DS.settled DS.crash
  rw [e]

theorem After.trans {F : Nat → Prop} {w w1 w2 : World} {p : Addr} {S1 S2 : DS} (h : After F w w1 p S1) (h' : ∀ F1, DAt w1 F1 p S1 → After F1 w1 w2 p S2) : After F w w2 p S2 := by
  obtain ⟨F1, h1, h2, h3⟩ := h
  obtain ⟨F2, h4, h5, h6⟩ := h' F1 h1
  refine ⟨F2, h4, ⟨h5.os.trans h2.os, h5.tape.trans h2.tape, h5.output.trans h2.output, Nat.le_trans h2.size h5.size, fun k hk hF => (h5.block k (Nat.lt_of_lt_of_le hk h2.size) (fun hf => ?_)).trans (h2.block k hk hF)⟩, fun k hk => ?_⟩
  · rcases h3 k hf with a | a
    · exact hF a
    · omega
  · rcases h6 k hk with a | a
    · exact h3 k a
    · exact .inr (Nat.le_trans h2.size a)

theorem After.base {F : Nat → Prop} {w0 w w1 : World} {p : Addr} {S : DS} (h : After F w w1 p S) (hb : Below w0.heap.size w0 w) : After F w0 w1 p S := by
  obtain ⟨F1, h1, h2, h3⟩ := h
  refine ⟨F1, h1, ⟨h2.os.trans hb.os, h2.tape.trans hb.tape, h2.output.trans hb.output, Nat.le_trans hb.size h2.size, fun k hk hF => (h2.block k (Nat.lt_of_lt_of_le hk hb.size) hF).trans (hb.block k hk)⟩, fun k hk => ?_⟩
  rcases h3 k hk with a | a
  · exact .inl a
  · exact .inr (Nat.le_trans hb.size a)

/-- The fuse mended. -/
theorem mended {F : Nat → Prop} {w : World} {b : Nat} {S : DS} (h : DAt w F ⟨b, 0, none⟩ S) : (∃ v0, w.cell? ⟨b, 0, none⟩ = some v0) ∧ (∃ v1, w.cell? ⟨b, 1, none⟩ = some v1) ∧ w.frozen? ⟨b, 0, none⟩ = false ∧ w.frozen? ⟨b, 1, none⟩ = false ∧ After F w ((w.setCell ⟨b, 0, none⟩ (.int .i64 (-1))).setCell ⟨b, 1, none⟩ (.bool false)) ⟨b, 0, none⟩ { S with arm := none, down := false } := by
  obtain ⟨b', sb, fb, left, pv, sN, fN, sf, ff, e, hrow, hrest, harm, hok, hdom, hcnt, hFb, hlt, c0, c1, c2, c3, c4, c5, c6⟩ := h.parts
  obtain rfl : b = b' := by injection e
  refine ⟨⟨_, c0⟩, ⟨_, c1⟩, hrow.frozen 0, hrow.frozen 1, ?_⟩
  have hrow1 := (hrow.set 0 (.int .i64 (-1))).congr (diskRow_set0 _ _ _ _ _ _ _ _)
  have hrow2 := (hrow1.set 1 (.bool false)).congr (diskRow_set1 _ _ _ _ _ _ _ _)
  have hr := ((hrest.keep (F' := FN F w) (w' := w) (fun _ h _ => .inl h) (fun _ _ _ _ => rfl)).setCell hrow 0 (.int .i64 (-1))).setCell hrow1 1 (.bool false)
  have hFx : ∀ x, (some b : Option Nat) = some x → FN F w x := fun x e => .inl (by injection e with e; rw [← e]; exact hFb)
  exact After.mk' (S := { S with arm := none, down := false }) hrow2 hr ⟨by omega, .inl ⟨by omega, rfl⟩⟩ ⟨hok.size, hok.safeBytes, hok.lastBytes, hok.pendLt, hok.pendNodup, hok.same⟩ hdom hcnt (.inl hFb) (((Touch.refl F w).grow (grown_setCell w b 0 _) hFx).grow (grown_setCell _ b 1 _) hFx)

set_option maxHeartbeats 800000 in
theorem crash_dev (A : Option Addr) (n c B : Nat) (l : List Int) (w : World) (F : Nat → Prop) (p : Addr) (S : DS) (h : DAt w F p S) (hr : RI w B A n l) (hm : n ≤ maxLen) :
    Calls Try.prog 21 #[.pointer (some p), .slice A n c] w fun e w' => e = .returned (.tuple #[]) ∧ After F w w' p (S.crash l) := by
  have h0 := h
  obtain ⟨b, sb, fb, left, pv, sN, fN, sf, ff, rfl, hrow, hrest, harm, hok, hdom, hcnt, hFb, hlt, c0, c1, c2, c3, c4, c5, c6⟩ := h.parts
  have hn : (0 : Int) < (S.n : Int) := by have := hok.size; omega
  have hsz := hok.size
  have hpl := pend_len_le hok
  rw [← settled_crash l]
  have hl := hr.len
  clear h hrow hrest hdom
  go_enter Try.func21, Try.ntmps21
  go_wp2_with fail
  refine (made_yes c2 hn).mono ?_
  rintro e w1 ⟨rfl, rfl⟩
  go_wp2_with fail
  refine (standsIn_any A n c B l w hr hm).mono ?_
  rintro e w2 ⟨pc, pm, rfl, hpc, him, hpc0, hpm0, hb2⟩
  have h2 := h0.keep (w' := w2) (fun k hk => hb2.block k (hlt k hk))
  have hpcl := (Array.getElem?_eq_some_iff.1 hpc).1
  have HS := settle_in pc (fun t => decide ((t : Int) ∈ l.take n)) (fun w' => w'.heap[pc]? = w2.heap[pc]? ∧ w'.heap[pm]? = w2.heap[pm]? ∧ w2.heap.size ≤ w'.heap.size) w2 F ⟨b, 0, none⟩ S h2 ⟨rfl, rfl, Nat.le_refl _⟩
    (fun w3 w4 row h3 hg hx => by
      have far : ∀ x, w.heap.size ≤ x → x < w2.heap.size → some x ≠ row := fun x hx1 hx2 e => by
        rcases hx x e.symm with a | a
        · have := hlt x a; omega
        · omega
      exact ⟨(hg.block pc (Nat.lt_of_lt_of_le hpcl h3.2.2) (far pc hpc0 hpcl)).trans h3.1, (hg.block pm (Nat.lt_of_lt_of_le him.lt h3.2.2) (far pm hpm0 him.lt)).trans h3.2.1, Nat.le_trans h3.2.2 hg.size⟩)
    (fun t w3 ht h3 => stands_any (t : Int) w3 (h3.1.trans hpc) (him.of_block h3.2.1) (by omega))
  rw [List.take_of_length_le (by omega)] at HS
  have HSS := Lib.hid HS
  clear HS him hpc h2 h0 hr
  go_wp2_with fail
  refine HSS.out.mono ?_
  rintro e w3 ⟨rfl, ha⟩
  have ha' := ha
  obtain ⟨F3, hd3, _⟩ := ha
  obtain ⟨⟨v0, g0⟩, ⟨v1, g1⟩, f0, f1, _⟩ := mended hd3
  have HE := Lib.hid ((ha'.trans (fun F1 h1 => (mended h1).2.2.2.2)).base hb2)
  clear hd3 ha'
  go_wp2_with fail
  refine (mend_any g0 g1 f0 f1).mono ?_
  rintro e w4 ⟨rfl, rfl⟩
  go_wp2
  go_end0
  exact ⟨rfl, HE.out⟩

end Go.Proofs.Ytkpopdoigkcpgaa
