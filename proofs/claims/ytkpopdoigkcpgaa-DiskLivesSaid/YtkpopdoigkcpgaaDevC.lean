/-
  slices.Clone on bytes and ints by contract, and the program's Read and Pending. Condition: fewer than 2^43 elements.
-/
import Derived.Test.YtkpopdoigkcpgaaDevB
namespace Go.Proofs.Ytkpopdoigkcpgaa
open Go.RowKit
set_option linter.unusedVariables false

set_option maxHeartbeats 400000 in
theorem CloneB_own {w : World} {B n : Nat} {A : Option Addr} {l : List Int} (c : Nat) (h : RB w B A n l) (hB : B ≤ w.heap.size) (hn : n ≤ 140737488355328) :
    Calls Try.prog 39 #[.slice A n c] w fun e w' => ∃ A' c', e = .returned (.slice A' n c') ∧ n ≤ c' ∧ w'.ownsRow w.heap.size 5 1 (.slice A' n c') n (l.map (Value.int .u8)) ∧ Below w.heap.size w w' := by
  have q22 : ∀ (w : World) (a : Option Addr) (n c n' c' : Nat), (binOp .eql 45 (.slice a n c) (.slice none n' c')).run Try.prog w = .ok (.bool a.isNone) w := fun w a n c n' c' => Lib.run_eql_slice_nil w _ _ a n c n' c' Try.underlying45
  rcases A with _ | ad
  · have hm : n = 0 := by
      rcases Nat.eq_zero_or_pos n with h0 | h0
      · exact h0
      · obtain ⟨b, off, e, _⟩ := h.at_ h0; cases e
    subst hm
    obtain rfl : l = [] := List.eq_nil_of_length_eq_zero h.len
    go_enter Try.func39, Try.ntmps39
    go_wp2
    go_ret
    exact ⟨none, 0, rfl, Nat.le_refl _, World.ownsRow_nil _ _ _ _, Below.refl _ _⟩
  · go_enter Try.func39, Try.ntmps39
    go_wp2_with (at_builtin; refine wpList_append_bytes rfl _ _ rfl w.heap.size _ 0 [] rfl (World.ownsRow_made w #[] 0 (Nat.le_refl _) (Nat.zero_le _) rfl) B (some ad) n c l rfl (h.alloc hB _) (by omega) (by simp) ?_; intro v1 w1 hown1 _ hb1)
    simp only [Nat.zero_add, List.nil_append] at hown1
    obtain ⟨A', c', rfl, hc'⟩ := own_shape hown1
    go_ret
    exact ⟨A', c', rfl, hc', hown1, ((Below.refl w.heap.size w).alloc (Nat.le_refl _) _).trans hb1⟩

theorem wpList_append_ints {w : World} {ops : Array Oper} {rest : List Oper} {o : Oper} {a : Act} {Q : Exit → Act → World → Prop} (hgd : o.guard = none) (s x : Operand)
    (ho : o.op = .call { callee := .builtin .append, args := #[s, x], argTypes := #[32, 32] })
    (base : Nat) (v : Value) (n : Nat) (xs : List Int) (hs : a.eval s = v) (hown : w.ownsRow base 3 1 v n (xs.map (Value.int .i64)))
    (B : Nat) (A : Option Addr) (m c : Nat) (l : List Int) (hx : a.eval x = .slice A m c) (hr : RI w B A m l)
    (h63 : n + m ≤ 8796093022208) (hbase : base ≤ w.heap.size)
    (h : ∀ v' w', w'.ownsRow base 3 1 v' (n + m) ((xs ++ l).map (Value.int .i64)) → w.grownBy w' v.ownBlock → wpList Try.prog ops Q rest (a.put o.dst v') w') : wpList Try.prog ops Q (o :: rest) a w := by
  obtain ⟨i0, hi, hz0, hz1, hz2⟩ := info_parts info_int
  have hone : ∀ u ∈ l.map (Value.int .i64), u.cells = #[u] := fun u hu => by
    obtain ⟨z, _, rfl⟩ := List.mem_map.1 hu
    rfl
  rcases A with _ | ad
  · have hm : m = 0 := by
      rcases Nat.eq_zero_or_pos m with h0 | h0
      · exact h0
      · obtain ⟨b, off, e, _⟩ := hr.2.2 h0; cases e
    subst hm
    have hl : l = [] := List.eq_nil_of_length_eq_zero hr.len
    subst hl
    refine wpList_plain hgd fun K hK => ?_
    have hrun := run_append_none (P := Try.prog) (w := w) base 32 o.type 3 i0 1 Try.underlying32 hi v n _ hown c
    unfold Oper.wp
    simp [execOp, ho, resolve, invoke, builtin, hs, hx, hrun, Result.andThen]
    exact hK _ _ (h v w (by simpa using hown) (World.grownBy.refl w _))
  · refine wpList_append_own w hgd s x 32 ho base 3 i0 (.int .i64 0) 1 8 Try.underlying32 hi hz0 hz1 hz2 rfl (by decide) v n _ hs hown ad m c (l.map (Value.int .i64)) hx (by simp [hr.len]) ?_ ?_ (by unfold maxLen; omega) (by omega) hbase ?_
    · intro j u hj
      have hjl : j < m := by
        have := (List.getElem?_eq_some_iff.1 hj).1
        have h2 := hr.len
        simp at this
        omega
      obtain ⟨b, off, e, _, hc⟩ := hr.2.2 (by omega)
      cases e
      have := hc j hjl
      rw [show (Addr.add ⟨b, off, none⟩ j) = ⟨b, off + j, none⟩ by simp [Addr.add], this]
      rw [List.getElem?_map, List.getElem?_eq_getElem (by have := hr.len; omega)] at hj
      rw [List.getElem?_eq_getElem (by have := hr.len; omega)]
      simpa using hj
    · exact fun u hu => by
        obtain ⟨z, _, rfl⟩ := List.mem_map.1 hu
        rfl
    · intro v' w' h1 h2 _
      exact h v' w' (by simpa using h1) h2

set_option maxHeartbeats 400000 in
theorem CloneI_own {w : World} {B n : Nat} {A : Option Addr} {l : List Int} (c : Nat) (h : RI w B A n l) (hB : B ≤ w.heap.size) (hn : n ≤ 8796093022208) :
    Calls Try.prog 35 #[.slice A n c] w fun e w' => ∃ A' c', e = .returned (.slice A' n c') ∧ n ≤ c' ∧ w'.ownsRow w.heap.size 3 1 (.slice A' n c') n (l.map (Value.int .i64)) ∧ Below w.heap.size w w' := by
  have q22 : ∀ (w : World) (a : Option Addr) (n c n' c' : Nat), (binOp .eql 32 (.slice a n c) (.slice none n' c')).run Try.prog w = .ok (.bool a.isNone) w := fun w a n c n' c' => Lib.run_eql_slice_nil w _ _ a n c n' c' Try.underlying32
  rcases A with _ | ad
  · have hm : n = 0 := by
      rcases Nat.eq_zero_or_pos n with h0 | h0
      · exact h0
      · obtain ⟨b, off, e, _⟩ := h.2.2 h0; cases e
    subst hm
    obtain rfl : l = [] := List.eq_nil_of_length_eq_zero h.len
    go_enter Try.func35, Try.ntmps35
    go_wp2
    go_ret
    exact ⟨none, 0, rfl, Nat.le_refl _, World.ownsRow_nil _ _ _ _, Below.refl _ _⟩
  · have hra : RI (w.alloc (.cells #[] 3)) B (some ad) n l := h.keep (fun b o hb => World.cell?_alloc_lt w _ ⟨b, o, none⟩ (by simp; omega))
    go_enter Try.func35, Try.ntmps35
    go_wp2_with (at_builtin; refine wpList_append_ints rfl _ _ rfl w.heap.size _ 0 [] rfl (World.ownsRow_made w #[] 0 (Nat.le_refl _) (Nat.zero_le _) rfl) B (some ad) n c l rfl hra (by omega) (by simp) ?_; intro v1 w1 hown1 hg1)
    simp only [Nat.zero_add, List.nil_append] at hown1
    obtain ⟨A', c', rfl, hc'⟩ := int_own_shape hown1
    have hb1 : Below w.heap.size w w1 := ((Below.refl w.heap.size w).alloc (Nat.le_refl _) _).grown hg1 (by simp) (int_own_ge (World.ownsRow_made (e := 3) (size := 1) w #[] 0 (Nat.le_refl w.heap.size) (Nat.zero_le _) rfl))
    go_ret
    exact ⟨A', c', rfl, hc', hown1, hb1⟩

theorem zero_slice (w : World) : (zeroValue 45).run Try.prog w = .ok (.slice none 0 0) w := by kernel_rfl

theorem readE_down {S : DS} (i : Int) (h : S.down = true) : S.readE i = 5 ∧ S.readL i = [] := by
  have e : S.readE i = 5 := by simp [DS.readE, h]
  exact ⟨e, by simp [DS.readL, e]⟩
theorem readE_no {S : DS} {i : Int} (h : S.down = false) (hi : ¬ S.has i) : S.readE i = 1 ∧ S.readL i = [] := by
  have e : S.readE i = 1 := by simp [DS.readE, h, hi]
  exact ⟨e, by simp [DS.readL, e]⟩
theorem readE_yes {S : DS} {i : Int} (h : S.down = false) (hi : S.has i) : S.readE i = 0 ∧ S.readL i = S.last i.toNat := by
  have e : S.readE i = 0 := by simp [DS.readE, h, hi]
  exact ⟨e, by simp [DS.readL, e]⟩

theorem made_nought {w : World} {base g : Nat} (h : w.ownsRow base 5 1 (.slice (some ⟨g, 0, none⟩) 256 256) 256 (madeCells (Value.int .u8 0).cells (256 * 1)).toList) : RB w w.heap.size (some ⟨g, 0, none⟩) 256 nought := by
  refine RB.of_own (base := base) (e := 5) (c := 256) ?_ nought_ok.2
  rw [show (Value.int .u8 0).cells = #[Value.int .u8 0] from rfl, toList_madeCells_one, Nat.mul_one] at h
  rw [nought, List.map_replicate]
  exact h

set_option maxHeartbeats 800000 in
theorem read_dev (i : Int) (w : World) (F : Nat → Prop) (p : Addr) (S : DS) (h : DAt w F p S) : Calls Try.prog 24 #[.pointer (some p), .int .i64 i] w fun e w' => ∃ (A : Option Addr) (n c : Nat), e = .returned (.tuple #[.slice A n c, .int .i64 (S.readE i)]) ∧ n ≤ c ∧ RB w' w'.heap.size A n (S.readL i) ∧ Below w.heap.size w w' := by
  obtain ⟨b, sb, fb, left, pv, sN, fN, sf, ff, rfl, hrow, hrest, harm, hok, hdom, hcnt, hFb, hlt, c0, c1, c2, c3, c4, c5, c6⟩ := h.parts
  have hn : (0 : Int) < (S.n : Int) := by have := hok.size; omega
  have hnm := hok.size
  by_cases hd : S.down = true
  · obtain ⟨e1, e2⟩ := readE_down i hd
    rw [hd] at c1
    rw [e1, e2]
    clear h hrow hrest hdom hd e1 e2 hlt
    go_enter Try.func24, Try.ntmps24
    go_wp2_with fail
    refine (ready_down c1 c2 hn).mono ?_
    rintro e w1 ⟨rfl, rfl⟩
    go_wp2
    go_ret2
    exact ⟨none, 0, 0, rfl, Nat.le_refl _, RB.nil_, Below.refl _ _⟩
  have hd' : S.down = false := by simpa using hd
  rw [hd'] at c1
  by_cases hi : S.has i
  · obtain ⟨e1, e2⟩ := readE_yes hd' hi
    rw [e1, e2]
    unfold DS.has at hi
    obtain ⟨k, rfl⟩ := Int.eq_ofNat_of_zero_le hi.1
    have hk : k < S.n := by omega
    have HH := Lib.hid (show decide (0 ≤ (k : Int) ∧ (k : Int) < (S.n : Int)) = true by simpa using hi)
    rw [Int.toNat_natCast]
    have hki : -9223372036854775808 ≤ (k : Int) ∧ (k : Int) ≤ 9223372036854775807 := by omega
    have q1 := hrest.freshM.look Try.underlying59 (zero_slice w) hki
    have q2 := hrest.safeM.look Try.underlying59 (zero_slice w) hki
    have hbytes := hok.lastBytes k
    have hfr := hrest.freshC k hk
    have hsf := hrest.safeC k hk
    have hdk := hdom k hk
    have hsame := hok.same k
    clear h hrow hrest hdom hd e1 e2 hlt hok
    rcases hff : ff (k : Int) with _ | v
    · rw [hff] at q1 hdk
      simp only [Option.getD_none, Option.isSome_none] at q1
      have hl : S.last k = S.safe k := hsame (fun hm => by simpa using hdk.2 hm)
      rw [hl] at hbytes ⊢
      clear hl hsame hdk hfr
      rcases hsv : sf (k : Int) with _ | v
      · rw [hsv] at q2 hsf
        simp only [Option.getD_none, Option.isSome_none] at q2
        obtain ⟨i0, hi', hz0, hz1, hz2⟩ := info_parts info_u8
        rw [show S.safe k = nought from hsf]
        clear hsf
        go_enter Try.func24, Try.ntmps24
        go_wp2_with fail
        refine (ready_ok c1 c2 hn).mono ?_
        rintro e w1 ⟨rfl, rfl⟩
        go_wp2_with fail
        refine (hasDev_any _ c2).mono ?_
        rw [HH.out]
        rintro e w1 ⟨rfl, rfl⟩
        go_wp2_with (refine wpList_make_full w rfl _ _ 45 rfl w.heap.size 5 i0 (.int .u8 0) 1 Try.underlying45 hi' hz0 hz1 .i64 .i64 _ _ 256 rfl rfl rfl rfl (by rw [hz2]; decide) (by decide) (Nat.le_refl _) ?_; intro w1 hown1 hg1; have hb1 : Below w.heap.size w w1 := (Below.refl _ _).grown hg1 (Nat.le_refl _) (by simp); have hr1 := made_nought hown1; clear hown1 hg1)
        go_ret2
        exact ⟨_, 256, 256, rfl, Nat.le_refl _, hr1, hb1⟩
      · rw [hsv] at q2 hsf
        obtain ⟨g, c, rfl, hc, hr⟩ := Cont.rb hsf hbytes
        simp only [Option.getD_some, Option.isSome_some] at q2
        clear hsf
        go_enter Try.func24, Try.ntmps24
        go_wp2_with fail
        refine (ready_ok c1 c2 hn).mono ?_
        rintro e w1 ⟨rfl, rfl⟩
        go_wp2_with fail
        refine (hasDev_any _ c2).mono ?_
        rw [HH.out]
        rintro e w1 ⟨rfl, rfl⟩
        go_wp2_with fail
        refine (CloneB_own c hr (Nat.le_refl _) (by decide)).mono ?_
        rintro e w1 ⟨A', c', rfl, hc', hown, hb⟩
        go_wp2
        go_ret2
        exact ⟨_, _, _, rfl, hc', RB.of_own hown hbytes.2, hb⟩
    · rw [hff] at q1
      obtain ⟨g, c, rfl, hc, hr⟩ := Cont.rb (hfr v hff) hbytes
      simp only [Option.getD_some, Option.isSome_some] at q1
      clear hsf hfr hdk hsame q2
      go_enter Try.func24, Try.ntmps24
      go_wp2_with fail
      refine (ready_ok c1 c2 hn).mono ?_
      rintro e w1 ⟨rfl, rfl⟩
      go_wp2_with fail
      refine (hasDev_any _ c2).mono ?_
      rw [HH.out]
      rintro e w1 ⟨rfl, rfl⟩
      go_wp2_with fail
      refine (CloneB_own c hr (Nat.le_refl _) (by decide)).mono ?_
      rintro e w1 ⟨A', c', rfl, hc', hown, hb⟩
      go_wp2
      go_ret2
      exact ⟨_, _, _, rfl, hc', RB.of_own hown hbytes.2, hb⟩
  · obtain ⟨e1, e2⟩ := readE_no hd' hi
    rw [e1, e2]
    have HH := Lib.hid (show decide (0 ≤ i ∧ i < (S.n : Int)) = false by simpa [DS.has] using hi)
    clear h hrow hrest hdom hd e1 e2 hlt hi
    go_enter Try.func24, Try.ntmps24
    go_wp2_with fail
    refine (ready_ok c1 c2 hn).mono ?_
    rintro e w1 ⟨rfl, rfl⟩
    go_wp2_with fail
    refine (hasDev_any _ c2).mono ?_
    rw [HH.out]
    rintro e w1 ⟨rfl, rfl⟩
    go_wp2
    go_ret2
    exact ⟨none, 0, 0, rfl, Nat.le_refl _, RB.nil_, Below.refl _ _⟩

theorem pend_reads {w : World} {pv : Value} {S : DS} (hok : S.Ok) (hp : w.ownsRow 0 3 1 pv S.pend.length ((S.pend.map Int.ofNat).map (Value.int .i64))) : ∃ A c, pv = .slice A S.pend.length c ∧ S.pend.length ≤ c ∧ RI w w.heap.size A S.pend.length S.pending := by
  obtain ⟨A, c, rfl, hc⟩ := int_own_shape hp
  have hsz := hok.size
  exact ⟨A, c, rfl, hc, (RI.of_own hp (fun x hx => by
    obtain ⟨k, hk, rfl⟩ := List.mem_map.1 hx
    have := hok.pendLt k hk
    have e : Int.ofNat k = (k : Int) := rfl
    rw [e]
    omega)).1⟩

theorem pend_len_le {S : DS} (h : S.Ok) : S.pend.length ≤ S.n := nodup_lt S.n S.pend h.pendNodup h.pendLt

set_option maxHeartbeats 800000 in
theorem pending_dev (w : World) (F : Nat → Prop) (p : Addr) (S : DS) (h : DAt w F p S) : Calls Try.prog 13 #[.pointer (some p)] w fun e w' => ∃ (A : Option Addr) (n c : Nat), e = .returned (.slice A n c) ∧ n ≤ c ∧ RI w' w'.heap.size A n S.pending ∧ (0 < n → ∀ a, A = some a → ¬ F a.block) ∧ Below w.heap.size w w' := by
  obtain ⟨b, sb, fb, left, pv, sN, fN, sf, ff, rfl, hrow, hrest, harm, hok, hdom, hcnt, hFb, hlt, c0, c1, c2, c3, c4, c5, c6⟩ := h.parts
  have hn : (0 : Int) < (S.n : Int) := by have := hok.size; omega
  have hnm := hok.size
  have hpl := pend_len_le hok
  obtain ⟨A, c, rfl, hc, hr⟩ := pend_reads hok hrest.pend
  clear h hrow hrest hdom
  go_enter Try.func13, Try.ntmps13
  go_wp2_with fail
  refine (made_yes c2 hn).mono ?_
  rintro e w1 ⟨rfl, rfl⟩
  go_wp2_with fail
  refine (CloneI_own c hr (Nat.le_refl _) (by omega)).mono ?_
  rintro e w1 ⟨A', c', rfl, hc', hown, hb⟩
  go_wp2
  go_ret
  obtain ⟨h1, h2⟩ := RI.of_own hown hr.2.1
  exact ⟨_, _, _, rfl, hc', h1, fun h0 a ha hF => by have := h2 h0 a ha; have := hlt _ hF; omega, hb⟩

end Go.Proofs.Ytkpopdoigkcpgaa
