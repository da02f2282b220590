/-
  The document's plain table's Put by contract. Conditions: fewer than 2^31 pairs, texts and values of at most 2^47 bytes.
-/
import Derived.Test.YtbhjmplhmoikbaaGreatTabE
import Derived.Test.YtbhjmplhmoikbaaGreatAnyZ
import Derived.Sort.Walk0
import Derived.Lib.AppendZeros
namespace Go.Proofs.YtbhjmplhmoikbaaGreat
open Go.RowKit Go.Maps
set_option maxRecDepth 100000
set_option linter.unusedVariables false

theorem step_append_run {P : Program} {ops : Array Oper} {o : Oper} {a : Act} {w : World} {K : Act → World → Prop} {Q : Exit → Act → World → Prop} {E : Prop} (hgd : o.guard = none) (s x : Operand) (t tn : TypeId)
    (ho : o.op = .call { callee := .builtin .append, args := #[s, x], argTypes := #[t, tn] }) (v u : Value) (hs : a.eval s = v) (hx : a.eval x = u) {v' : Value} {w' : World}
    (hrun : (Builtin.append_ #[t, tn] o.type #[v, u]).run P w = .ok v' w') (h : K (a.put o.dst v') w') :
    if Region.wanted o (yielded ops a.tmps) = true then Oper.wp P o a w K Q else E := by
  have hw : Region.wanted o (yielded ops a.tmps) = true := by simp [Region.wanted, hgd]
  rw [if_pos hw]
  exact Lib.wp_append_run w s x t tn ho v u hs hx _ _ hrun h

theorem touch_from {F : Nat → Prop} {a b c : World} (h : RowKit.Below a.heap.size a b) (k : Touch F b c) : Touch F a c :=
  ⟨k.os.trans h.os, k.tape.trans h.tape, k.output.trans h.output, Nat.le_trans h.size k.size, fun i hi hF => (k.block i (Nat.lt_of_lt_of_le hi h.size) hF).trans (h.block i hi)⟩
section
variable {w w' : World} {X X' Y : Nat → Prop} {t base : Nat} {L : TL}
set_option maxHeartbeats 6400000 in
theorem tabPut_any (h : TabAt w X t L) (hX : ∀ k, X k → k < w.heap.size) (hN : L.length ≤ 2147483647) {A A' : Option Addr} {n k B n' k' B' : Nat} {l l' : List Int} (hr : RB w B A n l) (hB : B ≤ w.heap.size) (hn : n ≤ 140737488355328) (hr' : RB w B' A' n' l') (hB' : B' ≤ w.heap.size) (hn' : n' ≤ 140737488355328) :
    Calls Tryz.prog 69 #[.pointer (some ⟨t, 0, none⟩), .slice A n k, .slice A' n' k'] w fun e w' => e = .returned (.tuple #[]) ∧ TabAt w' X t (setT L (tx l) l') ∧ Touch (fun k => k = t) w w' := by
  obtain ⟨uk, w1, hrun1, hs1, hb1⟩ := run_nil_append_bytes (k := k) hr hB hn 32
  obtain ⟨uv, w2, hrun2, hs2, hb2⟩ := run_nil_append_bytes (k := k') (hr'.below (hb1.mono hB')) (Nat.le_trans hB' hb1.size) hn' 32
  obtain ⟨w3, hw3⟩ : ∃ w3, w3 = w2.alloc (.cells #[uk, uv] 42 (0, 0)) := ⟨_, rfl⟩
  obtain ⟨pb, hpb⟩ : ∃ pb, pb = w2.heap.size := ⟨_, rfl⟩
  have hb3 : RowKit.Below w2.heap.size w2 w3 := by rw [hw3]; exact (RowKit.Below.refl _ _).alloc (Nat.le_refl _) _
  have hbk : w3.heap[pb]? = some (.cells #[uk, uv] 42 (0, 0)) := by rw [hw3, hpb]; exact heap_alloc_new _ _
  have hpl : pb < w3.heap.size := by rw [hw3, hpb]; simp
  have hb23 := hb2.trans (hb3.mono hb2.size)
  have hb03 := hb1.trans (hb23.mono hb1.size)
  have sk : SV w3 X uk (by_ (tx l)) := by
    rw [by_tx hr.bytes]
    exact (hs1.keep hb23.size (fun _ _ h => h) (fun k hk _ => hb23.block k hk)).far (fun k hk => hX k hk)
  have sv : SV w3 X uv l' := (hs2.keep hb3.size (fun _ _ h => h) (fun k hk _ => hb3.block k hk)).far (fun k hk => Nat.lt_of_lt_of_le (hX k hk) hb1.size)
  have h3 := h.below hb03
  have HT := Lib.hid h3
  obtain ⟨TA, N, TC, ht, _, hs⟩ := h3
  have hc0 : w3.cell? ⟨t, 0, none⟩ = some (.slice TA N TC) := by rw [cell_of_row w3 t 0 _ _ (0, 0) ht]; rfl
  have hfz : w3.frozen? ⟨t, 0, none⟩ = false := frozen_of_row w3 t 0 _ _ ht
  have hk0 : w3.cell? ⟨pb, 0, none⟩ = some uk := by rw [cell_of_row w3 pb 0 _ _ (0, 0) hbk]; rfl
  have hk1 : w3.cell? ⟨pb, 1, none⟩ = some uv := by rw [cell_of_row w3 pb 1 _ _ (0, 0) hbk]; rfl
  have hNL : L.length = N := hs.2.1
  rw [hNL] at hN
  have HR := Lib.hid (hr.below (hb03.mono hB))
  have HS := Lib.hid hs
  have HSK := Lib.hid sk
  have HSV := Lib.hid sv
  have HBK := Lib.hid hbk
  have HC := Lib.hid (And.intro hc0 (And.intro HT.out.lt hNL))
  have HK := Lib.hid (And.intro hk0 (And.intro hk1 hpl))
  have HFZ := Lib.hid hfz
  have HB03 := Lib.hid hb03
  have HXl := Lib.hid (show ∀ k, X k → k < w3.heap.size from fun k hk => Nat.lt_of_lt_of_le (hX k hk) hb03.size)
  have hB3 : B ≤ w3.heap.size := Nat.le_trans hB hb03.size
  have HRUN1 := Lib.hid hrun1
  have HRUN2 := Lib.hid hrun2
  obtain ⟨KA, KN, KC, rfl⟩ := hs1.slice
  obtain ⟨VA, VN, VC, rfl⟩ := hs2.slice
  clear hrun1 hrun2 hs1 hs2 hb1 hb2 hb3 hb23 hbk sk sv hr hr' ht hs hc0 hNL hX hb03 h hk0 hk1 hpl hfz hn hn' hB hB'
  go_enter Tryz.func69, Tryz.ntmps69
  have tok1 : True := trivial
  go_wp2_with (first
    | (at_builtin; have _t := tok1; clear tok1; refine Lib.wpList_append_run _ rfl _ _ _ _ rfl _ _ rfl rfl _ _ HRUN1.out ?_; have tok2 : True := trivial)
    | (at_builtin; have _t := tok2; clear tok2; refine Lib.wpList_append_run _ rfl _ _ _ _ rfl _ _ rfl rfl _ _ HRUN2.out ?_))
  rw [← hw3, ← hpb]
  clear hw3 hpb HRUN1 HRUN2
  go_loopw [7] (fun i wr => ∃ j : Nat, j ≤ N ∧ i = .int .i64 j ∧ Hid ((∀ (a : Nat) (y : Txt × List Int), a < j → L[a]? = some y → y.1 < tx l) ∧ RowKit.Below w3.heap.size w3 wr)) (fun i _ => N - (intOf i).toNat)
  case atStart => exact ⟨0, Nat.zero_le _, rfl, Lib.hid ⟨fun a y h => absurd h (Nat.not_lt_zero _), RowKit.Below.refl _ _⟩⟩
  case round =>
    obtain ⟨j, hj, rfl, HM⟩ := hrel
    obtain ⟨hno, hb⟩ := HM.out
    have c0 := (hb.cell (p := ⟨t, 0, none⟩) HC.out.2.1).trans HC.out.1
    by_cases hlt : j < N
    · obtain ⟨x, hx⟩ : ∃ x, L[j]? = some x := ⟨_, List.getElem?_eq_getElem (by rw [HC.out.2.2]; exact hlt)⟩
      have hsp := HS.out
      obtain ⟨_, _, hp⟩ := hsp
      obtain ⟨b, off, rfl, hbl, _, hp⟩ := hp (by omega)
      obtain ⟨u1, u2, c1, c2, s1, s2⟩ := hp j x hx
      have c1' := (hb.cell (p := ⟨b, off + j * 2, none⟩) hbl).trans c1
      obtain ⟨A1, n1, k1, rfl, _, _, z1, _⟩ := s1
      have v1 : ∀ q, (convert 32 9 (.slice A1 n1 k1)).run Tryz.prog (wr.drewN q) = .ok (encStr x.1) (wr.drewN q) := fun q => by
        have : (convert 32 9 (.slice A1 n1 k1)).run Tryz.prog (wr.drewN q) = .ok (encStr (tx (by_ x.1))) (wr.drewN q) := (z1.below (below_drewN hb q)).conv k1
        rwa [tx_by] at this
      have v2 : ∀ q, (convert 32 9 (.slice A n k)).run Tryz.prog (wr.drewN q) = .ok (encStr (tx l)) (wr.drewN q) := fun q => (HR.out.below ((below_drewN hb q).mono hB3)).conv k
      have hj64 : (j : Int) < (N : Int) := by omega
      have HX0 := Lib.hid hx
      have HNO := Lib.hid hno
      have HB := Lib.hid hb
      by_cases hlx : x.1 < tx l
      · have hq : Op.bytesLess x.1 (tx l) = true := by rw [bytesLess_eq]; exact decide_eq_true hlx
        have HN := Lib.hid (show (∀ (a : Nat) (y : Txt × List Int), a < j + 1 → L[a]? = some y → y.1 < tx l) from fun a y ha hy => by
          rcases Nat.lt_or_ge a j with h | h
          · exact HNO.out a y h hy
          · obtain rfl : a = j := by omega
            rw [HX0.out] at hy
            cases hy
            exact hlx)
        clear hx z1 hb hno hp hlx c1 c2
        go_wp2_with fail
        go_quiet (fail)
        go_wp2
        go_roundw
        case rel => exact ⟨j + 1, by omega, by go_num, Lib.hid ⟨HN.out, below_drewN HB.out _⟩⟩
        case measure => simp [intOf]; omega
      · have hq : Op.bytesLess x.1 (tx l) = false := by rw [bytesLess_eq]; exact decide_eq_false hlx
        by_cases hxe : x.1 = tx l
        · have hq2 : (x.1 == tx l) = true := by simpa using hxe
          have HXE := Lib.hid hxe
          have HREP := Lib.hid (set_rep (v := l') HNO.out HX0.out hxe)
          have HJ := Lib.hid (show j < L.length by rw [HC.out.2.2]; exact hlt)
          have HPU := Lib.hid (fun q => ((TabRow.start HXl.out).below (below_drewN HB.out q)).pushL HS.out (by simp; omega) 36)
          clear hx z1 hb hno hp c1 c2 hxe hlx
          go_wp2_with fail
          go_quiet (fail)
          revert nq
          intro nq1
          go_wp2_with fail
          go_quiet (fail)
          obtain ⟨v6, w6, hr6, hT6, _⟩ := HPU.out (nq1 + nq)
          rw [List.nil_append] at hT6
          obtain ⟨A6, c6, rfl⟩ := hT6.shape
          have hb6 := hT6.bel
          obtain ⟨g, rfl, hg, _, hf, ⟨y1, hy1⟩, ⟨y2, hy2⟩, hR7⟩ := hT6.setAt (j := j) (x := (tx l, l')) HJ.out HSK.out HSV.out
          have hset := hR7.set HT.out HXl.out
          have p0 := (hb6.cell (p := ⟨pb, 0, none⟩) HK.out.2.2).trans HK.out.1
          have p1 := (hb6.cell (p := ⟨pb, 1, none⟩) HK.out.2.2).trans HK.out.2.1
          have f0 := hf (j * 2)
          have f1 : (w6.setCell ⟨g, j * 2, none⟩ (.slice KA KN KC)).frozen? ⟨g, j * 2 + 1, none⟩ = false := by simpa using hf (j * 2 + 1)
          have ft := (hR7.bel.frozen (p := ⟨t, 0, none⟩) HC.out.2.1).trans HFZ.out
          have t0 := (hR7.bel.cell (p := ⟨t, 0, none⟩) HC.out.2.1).trans HC.out.1
          have HEND := Lib.hid hset
          have HR6 := Lib.hid hr6
          have hj6 : (j : Int) < (L.length : Int) := by have := HJ.out; omega
          have tok1 := True.intro
          clear hset hr6 hR7 hT6 hf hb6 hg
          go_wp2_with (at_builtin; have _t := tok1; clear tok1; refine Lib.wpList_append_run _ rfl _ _ _ _ rfl _ _ rfl rfl _ _ HR6.out ?_)
          (try simp only [Exit.inBlock, Exit.then])
          refine bodyPost_ret (results_none rfl _ _ _) rfl ?_
          exact ⟨rfl, by rw [HREP.out, ← HC.out.2.2]; exact HEND.out.1, touch_from HB03.out (by rw [← HC.out.2.2]; exact HEND.out.2)⟩
        · have hq2 : (x.1 == tx l) = false := by simpa using hxe
          have hgt : tx l < x.1 := by
            rcases tlt_tri x.1 (tx l) with a | a | a
            · exact absurd a hlx
            · exact absurd a hxe
            · exact a
          have HSET := Lib.hid (set_ins (v := l') (x := tx l) (j := j) (by rw [HC.out.2.2]; exact hj) HNO.out (fun y hy => by rw [HX0.out] at hy; cases hy; exact hgt))
          obtain ⟨A2, m2, k2, HA2, hm2, hsb⟩ : ∃ A2 m2 k2, Hid ((if TC = j then (some (⟨b, off, none⟩ : Addr)) else Option.map (fun a : Addr => a.add (j * 2)) (some (⟨b, off, none⟩ : Addr))) = A2 ∧ N - j = m2 ∧ TC - j = k2) ∧ m2 ≤ 2147483647 ∧ SPs w3 X A2 m2 k2 (L.drop j) := ⟨_, _, _, Lib.hid ⟨rfl, rfl, rfl⟩, by omega, HS.out.back_any (j := j) hj⟩
          have hsf := HS.out.front (j := j) hj
          have HIA := fun (wd : World) (hb : RowKit.Below w3.heap.size w3 wd) => insA (x := (tx l, l')) hb HT.out HXl.out hsf hsb HSK.out HSV.out (by omega) hm2
          have HIB := fun (wd : World) (hb : RowKit.Below w3.heap.size w3 wd) => insB (x := (tx l, l')) hb HT.out HXl.out hsf hsb HSK.out HSV.out (by omega) hm2
          have HSX := Lib.hid (fun (W : World) (hb : RowKit.Below w3.heap.size w3 W) => And.intro ((hb.cell (p := ⟨t, 0, none⟩) HC.out.2.1).trans HC.out.1) (And.intro ((hb.cell (p := ⟨pb, 0, none⟩) HK.out.2.2).trans HK.out.1) ((hb.cell (p := ⟨pb, 1, none⟩) HK.out.2.2).trans HK.out.2.1)))
          replace HIA := Lib.hid HIA
          replace HIB := Lib.hid HIB
          clear hsb hsf hm2
          clear hx z1 hb hno hp c1 c2 hxe hlx hgt
          go_wp2_with fail
          go_quiet (fail)
          revert nq
          intro nq1
          go_wp2_with fail
          go_quiet (fail)
          go_wp2_with fail
          obtain ⟨wd, hwd⟩ : ∃ wd, wd = (wr.drewN nq1).drewN nq := ⟨_, rfl⟩
          have HBD := Lib.hid (show RowKit.Below w3.heap.size w3 wd by rw [hwd]; exact below_drewN (below_drewN HB.out _) _)
          rw [← hwd]
          clear hwd
          replace HIA := Lib.hid (HIA.out wd HBD.out)
          replace HIB := Lib.hid (HIB.out wd HBD.out)
          have hNc : N ≤ TC := HS.out.1
          have hk0 : (0 : Int) ≤ (j : Int) := by omega
          have hkc : (j : Int) ≤ (TC : Int) := by omega
          have hkn : (j : Int) ≤ (N : Int) := by omega
          have x1 : wd.drew.cell? ⟨t, 0, none⟩ = some (.slice (some ⟨b, off, none⟩) N TC) ∧ wd.drew.cell? ⟨pb, 0, none⟩ = some (.slice KA KN KC) ∧ wd.drew.cell? ⟨pb, 1, none⟩ = some (.slice VA VN VC) := HSX.out _ HBD.out.drew
          refine wp_region_any (by rfl) ?_
          change wpAny _ _ _ _ _ _ _ wd.drew
          refine wpAny_of_Z (S := fun wz => wz.cell? ⟨t, 0, none⟩ = some (.slice (some ⟨b, off, none⟩) N TC) ∧ wz.cell? ⟨pb, 0, none⟩ = some (.slice KA KN KC) ∧ wz.cell? ⟨pb, 1, none⟩ = some (.slice VA VN VC)) (z := 20) _ _ _ _ ?_
          refine wpAnyZ_take (i := 0) (oi := { dst := some 71, op := _, type := _, pos := _, after := _, guard := _ }) (v := .pointer (some ⟨t, 0, none⟩)) rfl (by decide) (by kernel_rfl) (by kernel_rfl) (by kernel_rfl) (by kernel_rfl) (fun _ _ _ h => h) (Or.inl ⟨by rfl, fun wz hS => ?_⟩) x1 ?_
          · obtain ⟨y1, y2, y3⟩ := hS
            go_simp
          try simp only [Act.put, List.setIfInBounds_toArray, List.set_cons_zero, List.set_cons_succ]
          refine wpAnyZ_take (i := 1) (oi := { dst := some 72, op := _, type := _, pos := _, after := _, guard := _ }) (v := .pointer (some ⟨t, 0, none⟩)) rfl (by decide) (by kernel_rfl) (by kernel_rfl) (by kernel_rfl) (by kernel_rfl) (fun _ _ _ h => h) (Or.inl ⟨by rfl, fun wz hS => ?_⟩) x1 ?_
          · obtain ⟨y1, y2, y3⟩ := hS
            go_simp
          try simp only [Act.put, List.setIfInBounds_toArray, List.set_cons_zero, List.set_cons_succ]
          refine wpAnyZ_take (i := 2) (oi := { dst := some 73, op := _, type := _, pos := _, after := _, guard := _ }) (v := .pointer (some ⟨t, 0, none⟩)) rfl (by decide) (by kernel_rfl) (by kernel_rfl) (by kernel_rfl) (by kernel_rfl) (fun _ _ _ h => h) (Or.inl ⟨by rfl, fun wz hS => ?_⟩) x1 ?_
          · obtain ⟨y1, y2, y3⟩ := hS
            go_simp
          try simp only [Act.put, List.setIfInBounds_toArray, List.set_cons_zero, List.set_cons_succ]
          refine wpAnyZ_take (i := 3) (oi := { dst := some 74, op := _, type := _, pos := _, after := _, guard := _ }) (v := .pointer (some ⟨t, 0, none⟩)) rfl (by decide) (by kernel_rfl) (by kernel_rfl) (by kernel_rfl) (by kernel_rfl) (fun _ _ _ h => h) (Or.inl ⟨by rfl, fun wz hS => ?_⟩) x1 ?_
          · obtain ⟨y1, y2, y3⟩ := hS
            go_simp
          try simp only [Act.put, List.setIfInBounds_toArray, List.set_cons_zero, List.set_cons_succ]
          refine wpAnyZ_take (i := 4) (oi := { dst := some 75, op := _, type := _, pos := _, after := _, guard := _ }) (v := .slice (some ⟨b, off, none⟩) N TC) rfl (by decide) (by kernel_rfl) (by kernel_rfl) (by kernel_rfl) (by kernel_rfl) (fun _ _ _ h => h) (Or.inl ⟨by rfl, fun wz hS => ?_⟩) x1 ?_
          · obtain ⟨y1, y2, y3⟩ := hS
            go_simp
          try simp only [Act.put, List.setIfInBounds_toArray, List.set_cons_zero, List.set_cons_succ]
          refine wpAnyZ_take (i := 5) (oi := { dst := some 76, op := _, type := _, pos := _, after := _, guard := _ }) (v := .int .i64 ((j : Nat) : Int)) rfl (by decide) (by kernel_rfl) (by kernel_rfl) (by kernel_rfl) (by kernel_rfl) (fun _ _ _ h => h) (Or.inl ⟨by rfl, fun wz hS => ?_⟩) x1 ?_
          · obtain ⟨y1, y2, y3⟩ := hS
            go_simp
          try simp only [Act.put, List.setIfInBounds_toArray, List.set_cons_zero, List.set_cons_succ]
          refine wpAnyZ_take (i := 6) (oi := { dst := some 77, op := _, type := _, pos := _, after := _, guard := _ }) (v := .slice (some ⟨b, off, none⟩) j TC) rfl (by decide) (by kernel_rfl) (by kernel_rfl) (by kernel_rfl) (by kernel_rfl) (fun _ _ _ h => h) (Or.inl ⟨by rfl, fun wz hS => ?_⟩) x1 ?_
          · obtain ⟨y1, y2, y3⟩ := hS
            go_simp
            all_goals first | omega | simp [Addr.add]
          try simp only [Act.put, List.setIfInBounds_toArray, List.set_cons_zero, List.set_cons_succ]
          refine wpAnyZ_take (i := 8) (oi := { dst := some 79, op := _, type := _, pos := _, after := _, guard := _ }) (v := .agg #[.slice KA KN KC, .slice VA VN VC]) rfl (by decide) (by kernel_rfl) (by kernel_rfl) (by kernel_rfl) (by kernel_rfl) (fun _ _ _ h => h) (Or.inl ⟨by rfl, fun wz hS => ?_⟩) x1 ?_
          · obtain ⟨y1, y2, y3⟩ := hS
            go_simp
          try simp only [Act.put, List.setIfInBounds_toArray, List.set_cons_zero, List.set_cons_succ]
          refine wpAnyZ_take (i := 11) (oi := { dst := some 82, op := _, type := _, pos := _, after := _, guard := _ }) (v := .pointer (some ⟨t, 0, none⟩)) rfl (by decide) (by kernel_rfl) (by kernel_rfl) (by kernel_rfl) (by kernel_rfl) (fun _ _ _ h => h) (Or.inl ⟨by rfl, fun wz hS => ?_⟩) x1 ?_
          · obtain ⟨y1, y2, y3⟩ := hS
            go_simp
          try simp only [Act.put, List.setIfInBounds_toArray, List.set_cons_zero, List.set_cons_succ]
          refine wpAnyZ_take (i := 12) (oi := { dst := some 83, op := _, type := _, pos := _, after := _, guard := _ }) (v := .pointer (some ⟨t, 0, none⟩)) rfl (by decide) (by kernel_rfl) (by kernel_rfl) (by kernel_rfl) (by kernel_rfl) (fun _ _ _ h => h) (Or.inl ⟨by rfl, fun wz hS => ?_⟩) x1 ?_
          · obtain ⟨y1, y2, y3⟩ := hS
            go_simp
          try simp only [Act.put, List.setIfInBounds_toArray, List.set_cons_zero, List.set_cons_succ]
          refine wpAnyZ_take (i := 13) (oi := { dst := some 84, op := _, type := _, pos := _, after := _, guard := _ }) (v := .pointer (some ⟨t, 0, none⟩)) rfl (by decide) (by kernel_rfl) (by kernel_rfl) (by kernel_rfl) (by kernel_rfl) (fun _ _ _ h => h) (Or.inl ⟨by rfl, fun wz hS => ?_⟩) x1 ?_
          · obtain ⟨y1, y2, y3⟩ := hS
            go_simp
          try simp only [Act.put, List.setIfInBounds_toArray, List.set_cons_zero, List.set_cons_succ]
          refine wpAnyZ_take (i := 14) (oi := { dst := some 85, op := _, type := _, pos := _, after := _, guard := _ }) (v := .slice (some ⟨b, off, none⟩) N TC) rfl (by decide) (by kernel_rfl) (by kernel_rfl) (by kernel_rfl) (by kernel_rfl) (fun _ _ _ h => h) (Or.inl ⟨by rfl, fun wz hS => ?_⟩) x1 ?_
          · obtain ⟨y1, y2, y3⟩ := hS
            go_simp
          try simp only [Act.put, List.setIfInBounds_toArray, List.set_cons_zero, List.set_cons_succ]
          refine wpAnyZ_take (i := 15) (oi := { dst := some 86, op := _, type := _, pos := _, after := _, guard := _ }) (v := .int .i64 ((j : Nat) : Int)) rfl (by decide) (by kernel_rfl) (by kernel_rfl) (by kernel_rfl) (by kernel_rfl) (fun _ _ _ h => h) (Or.inl ⟨by rfl, fun wz hS => ?_⟩) x1 ?_
          · obtain ⟨y1, y2, y3⟩ := hS
            go_simp
          try simp only [Act.put, List.setIfInBounds_toArray, List.set_cons_zero, List.set_cons_succ]
          refine wpAnyZ_take (i := 16) (oi := { dst := some 87, op := _, type := _, pos := _, after := _, guard := _ }) (v := .slice A2 m2 k2) rfl (by decide) (by kernel_rfl) (by kernel_rfl) (by kernel_rfl) (by kernel_rfl) (fun _ _ _ h => h) (Or.inl ⟨by rfl, fun wz hS => ?_⟩) x1 ?_
          · obtain ⟨y1, y2, y3⟩ := hS
            obtain ⟨e1, e2, e3⟩ := HA2.out
            subst e1 e2 e3
            go_simp
            all_goals first | omega | simp [Addr.add]
          try simp only [Act.put, List.setIfInBounds_toArray, List.set_cons_zero, List.set_cons_succ]
          refine wpAnyZ_two (j := 7) (k := 9) (o := { dst := some 78, op := _, type := _, pos := _, after := _, guard := none }) (o' := { dst := some 80, op := _, type := _, pos := _, after := _, guard := none }) rfl rfl (by kernel_rfl) (by decide) (by decide) ?_ ?_
          · intro K1 hK1
            obtain ⟨v6, w6, hr6, hb6, hba, hE⟩ := HIA.out
            refine step_append_run (by rfl) (.const (.slice none 0 0)) (.tmp 77) _ _ (by rfl) _ _ (by rfl) (by rfl) hr6 ?_
            refine hK1 _ _ (HSX.out _ hb6) ?_
            clear hK1 K1 hr6
            try simp only [Act.put, List.setIfInBounds_toArray, List.set_cons_zero, List.set_cons_succ]
            refine wpAnyZ_one (j := 9) (o := { dst := some 80, op := _, type := _, pos := _, after := _, guard := none }) rfl (by kernel_rfl) (by decide) ?_
            intro K1 hK1
            rw [if_pos (by rfl)]
            go_simp
            refine hK1 _ _ (HSX.out _ hba) ?_
            clear hK1 K1
            generalize w6.alloc (.cells #[.slice KA KN KC, .slice VA VN VC] 42 (0, 0)) = W at hba hE ⊢
            generalize w6.heap.size = gl at hE ⊢
            try simp only [Act.put, List.setIfInBounds_toArray, List.set_cons_zero, List.set_cons_succ]
            obtain ⟨v7, w7, hr7, hb7, A8, n8, c8, w8, hr8, hb8, hf8, ht8, hto8⟩ := hE
            refine wpAnyZ_one (j := 10) (o := { dst := some 81, op := _, type := _, pos := _, after := _, guard := none }) rfl (by kernel_rfl) (by decide) ?_
            intro K1 hK1
            refine step_append_run (by rfl) (.tmp 78) (.tmp 80) _ _ (by rfl) _ _ (by rfl) (by rfl) hr7 ?_
            refine hK1 _ _ (HSX.out _ hb7) ?_
            clear hK1 K1 hr7
            try simp only [Act.put, List.setIfInBounds_toArray, List.set_cons_zero, List.set_cons_succ]
            refine wpAnyZ_one (j := 17) (o := { dst := some 88, op := _, type := _, pos := _, after := _, guard := none }) rfl (by kernel_rfl) (by decide) ?_
            intro K1 hK1
            refine step_append_run (by rfl) (.tmp 81) (.tmp 87) _ _ (by rfl) _ _ (by rfl) (by rfl) hr8 ?_
            have y8 := HSX.out _ hb8
            refine hK1 _ _ y8 ?_
            clear hK1 K1 hr8
            try simp only [Act.put, List.setIfInBounds_toArray, List.set_cons_zero, List.set_cons_succ]
            refine wpAnyZ_one (j := 18) (o := { dst := some 89, op := _, type := _, pos := _, after := _, guard := _ }) rfl (by kernel_rfl) (by decide) ?_
            intro K1 hK1
            rw [if_pos (by rfl)]
            go_simp
            refine hK1 _ _ y8 ?_
            clear hK1 K1
            try simp only [Act.put, List.setIfInBounds_toArray, List.set_cons_zero, List.set_cons_succ]
            refine wpAnyZ_one (j := 19) (o := { dst := some 90, op := _, type := _, pos := _, after := _, guard := _ }) rfl (by kernel_rfl) (by decide) ?_
            intro K1 hK1
            rw [if_pos (by rfl)]
            go_simp
            refine hK1 _ _ y8 ?_
            clear hK1 K1
            try simp only [Act.put, List.setIfInBounds_toArray, List.set_cons_zero, List.set_cons_succ]
            obtain ⟨y1, y2, y3⟩ := y8
            refine wpAnyZ_last (o := { dst := none, op := _, type := _, pos := _, after := _, guard := _ }) rfl (by kernel_rfl) ?_
            intro K1 hK1
            rw [if_pos (by rfl)]
            go_simp
            refine hK1 _ _ ?_
            clear hK1 K1
            refine wpAny_done (by kernel_rfl) ?_ _
            have HEND := Lib.hid (And.intro ht8 (touch_from HB03.out hto8))
            clear ht8 hto8 hf8 y1 y2 y3 x1
            go_wp2
            go_end0
            exact ⟨rfl, by rw [HSET.out]; exact HEND.out.1, HEND.out.2⟩
          · intro K1 hK1
            obtain ⟨hbd, v6, w6, hr6, hb6, hE⟩ := HIB.out
            rw [if_pos (by rfl)]
            go_simp
            refine hK1 _ _ (HSX.out _ hbd) ?_
            clear hK1 K1
            try simp only [Act.put, List.setIfInBounds_toArray, List.set_cons_zero, List.set_cons_succ]
            refine wpAnyZ_one (j := 7) (o := { dst := some 78, op := _, type := _, pos := _, after := _, guard := none }) rfl (by kernel_rfl) (by decide) ?_
            intro K1 hK1
            refine step_append_run (by rfl) (.const (.slice none 0 0)) (.tmp 77) _ _ (by rfl) _ _ (by rfl) (by rfl) hr6 ?_
            refine hK1 _ _ (HSX.out _ hb6) ?_
            rw [Array.setIfInBounds_comm _ _ (show (9 : Nat) ≠ 7 by decide)]
            clear hK1 K1 hr6 hbd
            generalize w6 = W at hE ⊢
            generalize wd.heap.size = gl at hE ⊢
            try simp only [Act.put, List.setIfInBounds_toArray, List.set_cons_zero, List.set_cons_succ]
            obtain ⟨v7, w7, hr7, hb7, A8, n8, c8, w8, hr8, hb8, hf8, ht8, hto8⟩ := hE
            refine wpAnyZ_one (j := 10) (o := { dst := some 81, op := _, type := _, pos := _, after := _, guard := none }) rfl (by kernel_rfl) (by decide) ?_
            intro K1 hK1
            refine step_append_run (by rfl) (.tmp 78) (.tmp 80) _ _ (by rfl) _ _ (by rfl) (by rfl) hr7 ?_
            refine hK1 _ _ (HSX.out _ hb7) ?_
            clear hK1 K1 hr7
            try simp only [Act.put, List.setIfInBounds_toArray, List.set_cons_zero, List.set_cons_succ]
            refine wpAnyZ_one (j := 17) (o := { dst := some 88, op := _, type := _, pos := _, after := _, guard := none }) rfl (by kernel_rfl) (by decide) ?_
            intro K1 hK1
            refine step_append_run (by rfl) (.tmp 81) (.tmp 87) _ _ (by rfl) _ _ (by rfl) (by rfl) hr8 ?_
            have y8 := HSX.out _ hb8
            refine hK1 _ _ y8 ?_
            clear hK1 K1 hr8
            try simp only [Act.put, List.setIfInBounds_toArray, List.set_cons_zero, List.set_cons_succ]
            refine wpAnyZ_one (j := 18) (o := { dst := some 89, op := _, type := _, pos := _, after := _, guard := _ }) rfl (by kernel_rfl) (by decide) ?_
            intro K1 hK1
            rw [if_pos (by rfl)]
            go_simp
            refine hK1 _ _ y8 ?_
            clear hK1 K1
            try simp only [Act.put, List.setIfInBounds_toArray, List.set_cons_zero, List.set_cons_succ]
            refine wpAnyZ_one (j := 19) (o := { dst := some 90, op := _, type := _, pos := _, after := _, guard := _ }) rfl (by kernel_rfl) (by decide) ?_
            intro K1 hK1
            rw [if_pos (by rfl)]
            go_simp
            refine hK1 _ _ y8 ?_
            clear hK1 K1
            try simp only [Act.put, List.setIfInBounds_toArray, List.set_cons_zero, List.set_cons_succ]
            obtain ⟨y1, y2, y3⟩ := y8
            refine wpAnyZ_last (o := { dst := none, op := _, type := _, pos := _, after := _, guard := _ }) rfl (by kernel_rfl) ?_
            intro K1 hK1
            rw [if_pos (by rfl)]
            go_simp
            refine hK1 _ _ ?_
            clear hK1 K1
            refine wpAny_done (by kernel_rfl) ?_ _
            have HEND := Lib.hid (And.intro ht8 (touch_from HB03.out hto8))
            clear ht8 hto8 hf8 y1 y2 y3 x1
            go_wp2
            go_end0
            exact ⟨rfl, by rw [HSET.out]; exact HEND.out.1, HEND.out.2⟩
    · obtain rfl : j = N := by omega
      have hjn : ¬ (j : Int) < (j : Int) := by omega
      have HNO := Lib.hid hno
      have HB := Lib.hid hb
      have HSET := Lib.hid (set_ins (v := l') (x := tx l) (j := j) (by rw [HC.out.2.2]; exact Nat.le_refl _) HNO.out (fun y hy => by have := (List.getElem?_eq_some_iff.1 hy).1; have h9 := HC.out.2.2; omega))
      obtain ⟨A2, m2, k2, HA2, hm2, hsb⟩ : ∃ A2 m2 k2, Hid ((if TC = j then TA else Option.map (fun a : Addr => a.add (j * 2)) TA) = A2 ∧ j - j = m2 ∧ TC - j = k2) ∧ m2 ≤ 2147483647 ∧ SPs w3 X A2 m2 k2 (L.drop j) := ⟨_, _, _, Lib.hid ⟨rfl, rfl, rfl⟩, by omega, HS.out.back_any (j := j) hj⟩
      have hsf := HS.out.front (j := j) hj
      have HIA := fun (wd : World) (hb : RowKit.Below w3.heap.size w3 wd) => insA (x := (tx l, l')) hb HT.out HXl.out hsf hsb HSK.out HSV.out (by omega) hm2
      have HIB := fun (wd : World) (hb : RowKit.Below w3.heap.size w3 wd) => insB (x := (tx l, l')) hb HT.out HXl.out hsf hsb HSK.out HSV.out (by omega) hm2
      have HSX := Lib.hid (fun (W : World) (hb : RowKit.Below w3.heap.size w3 W) => And.intro ((hb.cell (p := ⟨t, 0, none⟩) HC.out.2.1).trans HC.out.1) (And.intro ((hb.cell (p := ⟨pb, 0, none⟩) HK.out.2.2).trans HK.out.1) ((hb.cell (p := ⟨pb, 1, none⟩) HK.out.2.2).trans HK.out.2.1)))
      replace HIA := Lib.hid HIA
      replace HIB := Lib.hid HIB
      clear hsb hsf hm2
      clear hno hb
      go_wp2_with fail
      go_quiet (fail)
      revert nq
      intro nq1
      go_wp2_with fail
      go_quiet (fail)
      go_wp2_with fail
      obtain ⟨wd, hwd⟩ : ∃ wd, wd = (wr.drewN nq1).drewN nq := ⟨_, rfl⟩
      have HBD := Lib.hid (show RowKit.Below w3.heap.size w3 wd by rw [hwd]; exact below_drewN (below_drewN HB.out _) _)
      rw [← hwd]
      clear hwd
      replace HIA := Lib.hid (HIA.out wd HBD.out)
      replace HIB := Lib.hid (HIB.out wd HBD.out)
      have hNc : j ≤ TC := HS.out.1
      have hk0 : (0 : Int) ≤ (j : Int) := by omega
      have hkc : (j : Int) ≤ (TC : Int) := by omega
      have hkn : (j : Int) ≤ (j : Int) := by omega
      have x1 : wd.drew.cell? ⟨t, 0, none⟩ = some (.slice TA j TC) ∧ wd.drew.cell? ⟨pb, 0, none⟩ = some (.slice KA KN KC) ∧ wd.drew.cell? ⟨pb, 1, none⟩ = some (.slice VA VN VC) := HSX.out _ HBD.out.drew
      refine wp_region_any (by rfl) ?_
      change wpAny _ _ _ _ _ _ _ wd.drew
      refine wpAny_of_Z (S := fun wz => wz.cell? ⟨t, 0, none⟩ = some (.slice TA j TC) ∧ wz.cell? ⟨pb, 0, none⟩ = some (.slice KA KN KC) ∧ wz.cell? ⟨pb, 1, none⟩ = some (.slice VA VN VC)) (z := 20) _ _ _ _ ?_
      refine wpAnyZ_take (i := 0) (oi := { dst := some 71, op := _, type := _, pos := _, after := _, guard := _ }) (v := .pointer (some ⟨t, 0, none⟩)) rfl (by decide) (by kernel_rfl) (by kernel_rfl) (by kernel_rfl) (by kernel_rfl) (fun _ _ _ h => h) (Or.inl ⟨by rfl, fun wz hS => ?_⟩) x1 ?_
      · obtain ⟨y1, y2, y3⟩ := hS
        go_simp
      try simp only [Act.put, List.setIfInBounds_toArray, List.set_cons_zero, List.set_cons_succ]
      refine wpAnyZ_take (i := 1) (oi := { dst := some 72, op := _, type := _, pos := _, after := _, guard := _ }) (v := .pointer (some ⟨t, 0, none⟩)) rfl (by decide) (by kernel_rfl) (by kernel_rfl) (by kernel_rfl) (by kernel_rfl) (fun _ _ _ h => h) (Or.inl ⟨by rfl, fun wz hS => ?_⟩) x1 ?_
      · obtain ⟨y1, y2, y3⟩ := hS
        go_simp
      try simp only [Act.put, List.setIfInBounds_toArray, List.set_cons_zero, List.set_cons_succ]
      refine wpAnyZ_take (i := 2) (oi := { dst := some 73, op := _, type := _, pos := _, after := _, guard := _ }) (v := .pointer (some ⟨t, 0, none⟩)) rfl (by decide) (by kernel_rfl) (by kernel_rfl) (by kernel_rfl) (by kernel_rfl) (fun _ _ _ h => h) (Or.inl ⟨by rfl, fun wz hS => ?_⟩) x1 ?_
      · obtain ⟨y1, y2, y3⟩ := hS
        go_simp
      try simp only [Act.put, List.setIfInBounds_toArray, List.set_cons_zero, List.set_cons_succ]
      refine wpAnyZ_take (i := 3) (oi := { dst := some 74, op := _, type := _, pos := _, after := _, guard := _ }) (v := .pointer (some ⟨t, 0, none⟩)) rfl (by decide) (by kernel_rfl) (by kernel_rfl) (by kernel_rfl) (by kernel_rfl) (fun _ _ _ h => h) (Or.inl ⟨by rfl, fun wz hS => ?_⟩) x1 ?_
      · obtain ⟨y1, y2, y3⟩ := hS
        go_simp
      try simp only [Act.put, List.setIfInBounds_toArray, List.set_cons_zero, List.set_cons_succ]
      refine wpAnyZ_take (i := 4) (oi := { dst := some 75, op := _, type := _, pos := _, after := _, guard := _ }) (v := .slice TA j TC) rfl (by decide) (by kernel_rfl) (by kernel_rfl) (by kernel_rfl) (by kernel_rfl) (fun _ _ _ h => h) (Or.inl ⟨by rfl, fun wz hS => ?_⟩) x1 ?_
      · obtain ⟨y1, y2, y3⟩ := hS
        go_simp
      try simp only [Act.put, List.setIfInBounds_toArray, List.set_cons_zero, List.set_cons_succ]
      refine wpAnyZ_take (i := 5) (oi := { dst := some 76, op := _, type := _, pos := _, after := _, guard := _ }) (v := .int .i64 ((j : Nat) : Int)) rfl (by decide) (by kernel_rfl) (by kernel_rfl) (by kernel_rfl) (by kernel_rfl) (fun _ _ _ h => h) (Or.inl ⟨by rfl, fun wz hS => ?_⟩) x1 ?_
      · obtain ⟨y1, y2, y3⟩ := hS
        go_simp
      try simp only [Act.put, List.setIfInBounds_toArray, List.set_cons_zero, List.set_cons_succ]
      refine wpAnyZ_take (i := 6) (oi := { dst := some 77, op := _, type := _, pos := _, after := _, guard := _ }) (v := .slice TA j TC) rfl (by decide) (by kernel_rfl) (by kernel_rfl) (by kernel_rfl) (by kernel_rfl) (fun _ _ _ h => h) (Or.inl ⟨by rfl, fun wz hS => ?_⟩) x1 ?_
      · obtain ⟨y1, y2, y3⟩ := hS
        go_simp
        all_goals first | omega | simp [Addr.add]
      try simp only [Act.put, List.setIfInBounds_toArray, List.set_cons_zero, List.set_cons_succ]
      refine wpAnyZ_take (i := 8) (oi := { dst := some 79, op := _, type := _, pos := _, after := _, guard := _ }) (v := .agg #[.slice KA KN KC, .slice VA VN VC]) rfl (by decide) (by kernel_rfl) (by kernel_rfl) (by kernel_rfl) (by kernel_rfl) (fun _ _ _ h => h) (Or.inl ⟨by rfl, fun wz hS => ?_⟩) x1 ?_
      · obtain ⟨y1, y2, y3⟩ := hS
        go_simp
      try simp only [Act.put, List.setIfInBounds_toArray, List.set_cons_zero, List.set_cons_succ]
      refine wpAnyZ_take (i := 11) (oi := { dst := some 82, op := _, type := _, pos := _, after := _, guard := _ }) (v := .pointer (some ⟨t, 0, none⟩)) rfl (by decide) (by kernel_rfl) (by kernel_rfl) (by kernel_rfl) (by kernel_rfl) (fun _ _ _ h => h) (Or.inl ⟨by rfl, fun wz hS => ?_⟩) x1 ?_
      · obtain ⟨y1, y2, y3⟩ := hS
        go_simp
      try simp only [Act.put, List.setIfInBounds_toArray, List.set_cons_zero, List.set_cons_succ]
      refine wpAnyZ_take (i := 12) (oi := { dst := some 83, op := _, type := _, pos := _, after := _, guard := _ }) (v := .pointer (some ⟨t, 0, none⟩)) rfl (by decide) (by kernel_rfl) (by kernel_rfl) (by kernel_rfl) (by kernel_rfl) (fun _ _ _ h => h) (Or.inl ⟨by rfl, fun wz hS => ?_⟩) x1 ?_
      · obtain ⟨y1, y2, y3⟩ := hS
        go_simp
      try simp only [Act.put, List.setIfInBounds_toArray, List.set_cons_zero, List.set_cons_succ]
      refine wpAnyZ_take (i := 13) (oi := { dst := some 84, op := _, type := _, pos := _, after := _, guard := _ }) (v := .pointer (some ⟨t, 0, none⟩)) rfl (by decide) (by kernel_rfl) (by kernel_rfl) (by kernel_rfl) (by kernel_rfl) (fun _ _ _ h => h) (Or.inl ⟨by rfl, fun wz hS => ?_⟩) x1 ?_
      · obtain ⟨y1, y2, y3⟩ := hS
        go_simp
      try simp only [Act.put, List.setIfInBounds_toArray, List.set_cons_zero, List.set_cons_succ]
      refine wpAnyZ_take (i := 14) (oi := { dst := some 85, op := _, type := _, pos := _, after := _, guard := _ }) (v := .slice TA j TC) rfl (by decide) (by kernel_rfl) (by kernel_rfl) (by kernel_rfl) (by kernel_rfl) (fun _ _ _ h => h) (Or.inl ⟨by rfl, fun wz hS => ?_⟩) x1 ?_
      · obtain ⟨y1, y2, y3⟩ := hS
        go_simp
      try simp only [Act.put, List.setIfInBounds_toArray, List.set_cons_zero, List.set_cons_succ]
      refine wpAnyZ_take (i := 15) (oi := { dst := some 86, op := _, type := _, pos := _, after := _, guard := _ }) (v := .int .i64 ((j : Nat) : Int)) rfl (by decide) (by kernel_rfl) (by kernel_rfl) (by kernel_rfl) (by kernel_rfl) (fun _ _ _ h => h) (Or.inl ⟨by rfl, fun wz hS => ?_⟩) x1 ?_
      · obtain ⟨y1, y2, y3⟩ := hS
        go_simp
      try simp only [Act.put, List.setIfInBounds_toArray, List.set_cons_zero, List.set_cons_succ]
      refine wpAnyZ_take (i := 16) (oi := { dst := some 87, op := _, type := _, pos := _, after := _, guard := _ }) (v := .slice A2 m2 k2) rfl (by decide) (by kernel_rfl) (by kernel_rfl) (by kernel_rfl) (by kernel_rfl) (fun _ _ _ h => h) (Or.inl ⟨by rfl, fun wz hS => ?_⟩) x1 ?_
      · obtain ⟨y1, y2, y3⟩ := hS
        obtain ⟨e1, e2, e3⟩ := HA2.out
        subst e1 e2 e3
        go_simp
        all_goals first | omega | simp [Addr.add]
      try simp only [Act.put, List.setIfInBounds_toArray, List.set_cons_zero, List.set_cons_succ]
      refine wpAnyZ_two (j := 7) (k := 9) (o := { dst := some 78, op := _, type := _, pos := _, after := _, guard := none }) (o' := { dst := some 80, op := _, type := _, pos := _, after := _, guard := none }) rfl rfl (by kernel_rfl) (by decide) (by decide) ?_ ?_
      · intro K1 hK1
        obtain ⟨v6, w6, hr6, hb6, hba, hE⟩ := HIA.out
        refine step_append_run (by rfl) (.const (.slice none 0 0)) (.tmp 77) _ _ (by rfl) _ _ (by rfl) (by rfl) hr6 ?_
        refine hK1 _ _ (HSX.out _ hb6) ?_
        clear hK1 K1 hr6
        try simp only [Act.put, List.setIfInBounds_toArray, List.set_cons_zero, List.set_cons_succ]
        refine wpAnyZ_one (j := 9) (o := { dst := some 80, op := _, type := _, pos := _, after := _, guard := none }) rfl (by kernel_rfl) (by decide) ?_
        intro K1 hK1
        rw [if_pos (by rfl)]
        go_simp
        refine hK1 _ _ (HSX.out _ hba) ?_
        clear hK1 K1
        generalize w6.alloc (.cells #[.slice KA KN KC, .slice VA VN VC] 42 (0, 0)) = W at hba hE ⊢
        generalize w6.heap.size = gl at hE ⊢
        try simp only [Act.put, List.setIfInBounds_toArray, List.set_cons_zero, List.set_cons_succ]
        obtain ⟨v7, w7, hr7, hb7, A8, n8, c8, w8, hr8, hb8, hf8, ht8, hto8⟩ := hE
        refine wpAnyZ_one (j := 10) (o := { dst := some 81, op := _, type := _, pos := _, after := _, guard := none }) rfl (by kernel_rfl) (by decide) ?_
        intro K1 hK1
        refine step_append_run (by rfl) (.tmp 78) (.tmp 80) _ _ (by rfl) _ _ (by rfl) (by rfl) hr7 ?_
        refine hK1 _ _ (HSX.out _ hb7) ?_
        clear hK1 K1 hr7
        try simp only [Act.put, List.setIfInBounds_toArray, List.set_cons_zero, List.set_cons_succ]
        refine wpAnyZ_one (j := 17) (o := { dst := some 88, op := _, type := _, pos := _, after := _, guard := none }) rfl (by kernel_rfl) (by decide) ?_
        intro K1 hK1
        refine step_append_run (by rfl) (.tmp 81) (.tmp 87) _ _ (by rfl) _ _ (by rfl) (by rfl) hr8 ?_
        have y8 := HSX.out _ hb8
        refine hK1 _ _ y8 ?_
        clear hK1 K1 hr8
        try simp only [Act.put, List.setIfInBounds_toArray, List.set_cons_zero, List.set_cons_succ]
        refine wpAnyZ_one (j := 18) (o := { dst := some 89, op := _, type := _, pos := _, after := _, guard := _ }) rfl (by kernel_rfl) (by decide) ?_
        intro K1 hK1
        rw [if_pos (by rfl)]
        go_simp
        refine hK1 _ _ y8 ?_
        clear hK1 K1
        try simp only [Act.put, List.setIfInBounds_toArray, List.set_cons_zero, List.set_cons_succ]
        refine wpAnyZ_one (j := 19) (o := { dst := some 90, op := _, type := _, pos := _, after := _, guard := _ }) rfl (by kernel_rfl) (by decide) ?_
        intro K1 hK1
        rw [if_pos (by rfl)]
        go_simp
        refine hK1 _ _ y8 ?_
        clear hK1 K1
        try simp only [Act.put, List.setIfInBounds_toArray, List.set_cons_zero, List.set_cons_succ]
        obtain ⟨y1, y2, y3⟩ := y8
        refine wpAnyZ_last (o := { dst := none, op := _, type := _, pos := _, after := _, guard := _ }) rfl (by kernel_rfl) ?_
        intro K1 hK1
        rw [if_pos (by rfl)]
        go_simp
        refine hK1 _ _ ?_
        clear hK1 K1
        refine wpAny_done (by kernel_rfl) ?_ _
        have HEND := Lib.hid (And.intro ht8 (touch_from HB03.out hto8))
        clear ht8 hto8 hf8 y1 y2 y3 x1
        go_wp2
        go_end0
        exact ⟨rfl, by rw [HSET.out]; exact HEND.out.1, HEND.out.2⟩
      · intro K1 hK1
        obtain ⟨hbd, v6, w6, hr6, hb6, hE⟩ := HIB.out
        rw [if_pos (by rfl)]
        go_simp
        refine hK1 _ _ (HSX.out _ hbd) ?_
        clear hK1 K1
        try simp only [Act.put, List.setIfInBounds_toArray, List.set_cons_zero, List.set_cons_succ]
        refine wpAnyZ_one (j := 7) (o := { dst := some 78, op := _, type := _, pos := _, after := _, guard := none }) rfl (by kernel_rfl) (by decide) ?_
        intro K1 hK1
        refine step_append_run (by rfl) (.const (.slice none 0 0)) (.tmp 77) _ _ (by rfl) _ _ (by rfl) (by rfl) hr6 ?_
        refine hK1 _ _ (HSX.out _ hb6) ?_
        rw [Array.setIfInBounds_comm _ _ (show (9 : Nat) ≠ 7 by decide)]
        clear hK1 K1 hr6 hbd
        generalize w6 = W at hE ⊢
        generalize wd.heap.size = gl at hE ⊢
        try simp only [Act.put, List.setIfInBounds_toArray, List.set_cons_zero, List.set_cons_succ]
        obtain ⟨v7, w7, hr7, hb7, A8, n8, c8, w8, hr8, hb8, hf8, ht8, hto8⟩ := hE
        refine wpAnyZ_one (j := 10) (o := { dst := some 81, op := _, type := _, pos := _, after := _, guard := none }) rfl (by kernel_rfl) (by decide) ?_
        intro K1 hK1
        refine step_append_run (by rfl) (.tmp 78) (.tmp 80) _ _ (by rfl) _ _ (by rfl) (by rfl) hr7 ?_
        refine hK1 _ _ (HSX.out _ hb7) ?_
        clear hK1 K1 hr7
        try simp only [Act.put, List.setIfInBounds_toArray, List.set_cons_zero, List.set_cons_succ]
        refine wpAnyZ_one (j := 17) (o := { dst := some 88, op := _, type := _, pos := _, after := _, guard := none }) rfl (by kernel_rfl) (by decide) ?_
        intro K1 hK1
        refine step_append_run (by rfl) (.tmp 81) (.tmp 87) _ _ (by rfl) _ _ (by rfl) (by rfl) hr8 ?_
        have y8 := HSX.out _ hb8
        refine hK1 _ _ y8 ?_
        clear hK1 K1 hr8
        try simp only [Act.put, List.setIfInBounds_toArray, List.set_cons_zero, List.set_cons_succ]
        refine wpAnyZ_one (j := 18) (o := { dst := some 89, op := _, type := _, pos := _, after := _, guard := _ }) rfl (by kernel_rfl) (by decide) ?_
        intro K1 hK1
        rw [if_pos (by rfl)]
        go_simp
        refine hK1 _ _ y8 ?_
        clear hK1 K1
        try simp only [Act.put, List.setIfInBounds_toArray, List.set_cons_zero, List.set_cons_succ]
        refine wpAnyZ_one (j := 19) (o := { dst := some 90, op := _, type := _, pos := _, after := _, guard := _ }) rfl (by kernel_rfl) (by decide) ?_
        intro K1 hK1
        rw [if_pos (by rfl)]
        go_simp
        refine hK1 _ _ y8 ?_
        clear hK1 K1
        try simp only [Act.put, List.setIfInBounds_toArray, List.set_cons_zero, List.set_cons_succ]
        obtain ⟨y1, y2, y3⟩ := y8
        refine wpAnyZ_last (o := { dst := none, op := _, type := _, pos := _, after := _, guard := _ }) rfl (by kernel_rfl) ?_
        intro K1 hK1
        rw [if_pos (by rfl)]
        go_simp
        refine hK1 _ _ ?_
        clear hK1 K1
        refine wpAny_done (by kernel_rfl) ?_ _
        have HEND := Lib.hid (And.intro ht8 (touch_from HB03.out hto8))
        clear ht8 hto8 hf8 y1 y2 y3 x1
        go_wp2
        go_end0
        exact ⟨rfl, by rw [HSET.out]; exact HEND.out.1, HEND.out.2⟩
end

end Go.Proofs.YtbhjmplhmoikbaaGreat
