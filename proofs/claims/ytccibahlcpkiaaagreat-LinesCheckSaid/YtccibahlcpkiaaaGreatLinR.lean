/-
  Contract of the document's Funds. Condition: fewer than 2^30 lines. (Printed by tools/genLinR.py.)
-/
import Derived.Test.YtccibahlcpkiaaaGreatLinQ
namespace Go.Proofs.YtccibahlcpkiaaaGreat
open Go.RowKit Go.Maps
set_option maxRecDepth 100000
set_option linter.unusedVariables false

theorem step_append_runQ {P : Program} {ops : Array Oper} {o : Oper} {a : Act} {w : World} {K : Act → World → Prop} {Q : Exit → Act → World → Prop} {E : Prop} (hgd : o.guard = none) (s x : Operand) (t tn : TypeId)
    (ho : o.op = .call { callee := .builtin .append, args := #[s, x], argTypes := #[t, tn] }) (v u : Value) (hs : a.eval s = v) (hx : a.eval x = u) {v' : Value} {w' : World}
    (hrun : (Builtin.append_ #[t, tn] o.type #[v, u]).run P w = .ok v' w') (h : K (a.put o.dst v') w') :
    if Region.wanted o (yielded ops a.tmps) = true then Oper.wp P o a w K Q else E := by
  have hw : Region.wanted o (yielded ops a.tmps) = true := by simp [Region.wanted, hgd]
  rw [if_pos hw]
  exact Lib.wp_append_run w s x t tn ho v u hs hx _ _ hrun h
theorem below_drewQ {B : Nat} {w w' : World} (h : Below B w w') : ∀ n, Below B w (w'.drewN n) := fun n => ⟨h.os, h.tape, h.output, h.size, h.block⟩
theorem fundsOf_step {l : List Ln} {j : Nat} {x : Ln} (h : l[j]? = some x) : fundsOf (l.take (j + 1)) = addF (fundsOf (l.take j)) x.f x.a := by
  obtain ⟨hj, rfl⟩ := List.getElem?_eq_some_iff.1 h
  rw [List.take_succ_eq_append_getElem hj, fundsOf_snoc]

section
variable {w w' : World} {A A' : Option Addr} {n m k B B' : Nat} {l l' : List Ln}
set_option maxHeartbeats 6400000 in
theorem refFunds_any (hr : RL w B A n l) (hB : B ≤ w.heap.size) (hn : n ≤ 1073741823) :
    Calls Tryz.prog 15 #[.slice A n k] w fun e w' => ∃ u, e = .returned u ∧ LOwn w' w.heap.size u ((fundsOf l).map fundLn) ∧ Below w.heap.size w w' := by
  have HR := Lib.hid (And.intro hr hB)
  clear hr hB
  go_enter Tryz.func15, Tryz.ntmps15
  go_wp2_with fail
  go_loopw [3, 4] (fun u i wr => ∃ q : Nat, q ≤ n ∧ i = .int .i64 q ∧ Hid (LOwn wr w.heap.size u ((fundsOf (l.take q)).map fundLn) ∧ Below w.heap.size w wr)) (fun _ i _ => n - (intOf i).toNat)
  case atStart => exact ⟨0, Nat.zero_le _, rfl, Lib.hid ⟨by rw [List.take_zero]; exact LOwn.start _ _, Below.refl _ _⟩⟩
  case round =>
    obtain ⟨q, hq, rfl, HI⟩ := hrel
    by_cases hlt : q < n
    · have hlt' : (q : Int) < (n : Int) := by omega
      obtain ⟨x, hx⟩ : ∃ x, l[q]? = some x := ⟨_, List.getElem?_eq_getElem (by rw [HR.out.1.len]; exact hlt)⟩
      have hok := HR.out.1.ok x (List.mem_of_getElem? hx)
      have hstep := fundsOf_step hx
      have hin := fundsOf_in (l.take q) (fun y hy => HR.out.1.ok y (List.mem_of_mem_take hy))
      have hlen : (fundsOf (l.take q)).length ≤ q := Nat.le_trans (fundsOf_len _) (by rw [List.length_take]; exact Nat.min_le_left _ _)
      have hnext : ∀ W v, LOwn W w.heap.size v ((addF (fundsOf (l.take q)) x.f x.a).map fundLn) ∧ Below w.heap.size w W → LOwn W w.heap.size v ((fundsOf (l.take (q + 1))).map fundLn) ∧ Below w.heap.size w W := fun W v h => by rw [hstep]; exact h
      have hI := HI.out
      generalize fundsOf (l.take q) = L at hI hnext hstep hin hlen
      obtain ⟨hown, hb⟩ := hI
      obtain ⟨b, off, rfl, hbB, hat⟩ := HR.out.1.2.2 (by omega)
      obtain ⟨c0, c1, c2, c3⟩ := (hat q x hx).keep hbB (fun b o hbb => hb.cell (p := ⟨b, o, none⟩) (Nat.lt_of_lt_of_le hbb HR.out.2))
      obtain ⟨xf, xo, xn, xa⟩ := x
      simp only at c0 c1 c2 c3 hok hstep hnext
      obtain ⟨PA, PC, rfl, hPC⟩ := hown.shape
      rw [List.length_map] at hown hPC ⊢
      obtain ⟨_, _, hrow⟩ := hown.read (fundLn_okQ hin)
      obtain ⟨N, hN⟩ : ∃ N, N = L.length := ⟨_, rfl⟩
      rw [← hN] at hown hrow hPC hlen ⊢
      have hN30 : N ≤ 1073741823 := by omega
      have HBLT := Lib.hid (Nat.lt_of_lt_of_le (Nat.lt_of_lt_of_le hbB HR.out.2) hb.size)
      have HNX := Lib.hid hnext
      have HOW := Lib.hid (And.intro hown (And.intro hb hrow))
      have HOK := Lib.hid (And.intro hok hin)
      have HNN := Lib.hid hN
      have HC := Lib.hid (And.intro c0 c3)
      clear hown hb hrow hnext hok hin hN hx hat HI hstep c0 c1 c2 c3
      go_wp2_with fail
      obtain ⟨w1, hw1⟩ : ∃ w1, w1 = wr := ⟨_, rfl⟩
      subst hw1
      go_loopw [5] (fun i W => ∃ j : Nat, j ≤ N ∧ i = .int .i64 j ∧ Hid ((∀ (i : Nat) (y : Int × Int), i < j → L[i]? = some y → y.1 < xf) ∧ Below w1.heap.size w1 W)) (fun i _ => N - (intOf i).toNat)
      case atStart => exact ⟨0, Nat.zero_le _, rfl, Lib.hid ⟨fun i y h => absurd h (Nat.not_lt_zero _), Below.refl _ _⟩⟩
      case round =>
        obtain ⟨W, hW⟩ : ∃ W, W = wr := ⟨_, rfl⟩
        subst hW
        obtain ⟨j, hj, rfl, HM⟩ := hrel
        obtain ⟨hno, hbw⟩ := HM.out
        have c0 := (hbw.cell (p := ⟨b, off + q * 4, none⟩) HBLT.out).trans HC.out.1
        have c3 := (hbw.cell (p := ⟨b, off + q * 4 + 3, none⟩) HBLT.out).trans HC.out.2
        by_cases hjl : j < N
        · have hjl' : (j : Int) < (N : Int) := by omega
          obtain ⟨y, hy⟩ : ∃ y, L[j]? = some y := ⟨_, List.getElem?_eq_getElem (by rw [← HNN.out]; exact hjl)⟩
          obtain ⟨g, og, rfl, hgl, hpat⟩ := HOW.out.2.2.2.2 (by omega)
          obtain ⟨d0, d1, d2, d3⟩ := (hpat j (fundLn y) (by rw [List.getElem?_map, hy]; rfl)).keep hgl (fun b o hbb => hbw.cell (p := ⟨b, o, none⟩) hbb)
          have d0' : W.cell? ⟨g, og + j * 4, none⟩ = some (.int .i64 y.1) := d0
          have HY := Lib.hid (And.intro hy hno)
          have HBW := Lib.hid hbw
          by_cases hlx : y.1 < xf
          · have HN := Lib.hid (show (∀ (i : Nat) (y : Int × Int), i < j + 1 → L[i]? = some y → y.1 < xf) from fun i z hi hz => by
              rcases Nat.lt_or_ge i j with h | h
              · exact hno i z h hz
              · obtain rfl : i = j := by omega
                rw [hy] at hz
                cases hz
                exact hlx)
            generalize y.1 = yf at d0' hlx
            clear hy hno hbw hpat d0 d1 d2 d3 HM
            go_wp2_with fail
            go_quiet (fail)
            go_wp2
            go_roundw
            case rel => exact ⟨j + 1, by omega, by go_num, Lib.hid ⟨HN.out, below_drewQ HBW.out _⟩⟩
            case measure => simp [intOf]; omega
          · by_cases hxe : y.1 = xf
            · obtain ⟨yf, s⟩ := y
              simp only at hxe d0' hlx
              subst hxe
              obtain ⟨z, hz⟩ : ∃ z, IntKind.i64.wrap (s + xa) = z := ⟨_, rfl⟩
              have hrep := addF_rep (L := L) (j := j) (f := yf) (a := xa) hno hy rfl
              simp only [hz] at hrep
              have HREP := Lib.hid hrep
              have hbeq : (yf == yf) = true := by simp
              clear hy hno hbw hpat d0 d1 d2 d3 HM hrep
              go_wp2_with fail
              go_quiet (fail)
              revert nq
              intro nq1
              go_wp2_with fail
              go_quiet (fail)
              go_wp2_with fail
              obtain ⟨wd, hwd⟩ : ∃ wd, wd = (W.drewN nq1).drewN nq := ⟨_, rfl⟩
              have hbd : Below w1.heap.size w1 wd := by rw [hwd]; exact below_drewQ (below_drewQ HBW.out _) _
              rw [← hwd]
              clear hwd
              have hownd : LOwn wd.drew w.heap.size (.slice (some ⟨g, og, none⟩) N PC) (L.map fundLn) := HOW.out.1.below hbd.drew
              obtain ⟨g', eg, hgb, hgs, hfz, hln, hset, hbs⟩ := hownd.setA (j := j) (x := fundLn (yf, s)) (by rw [List.getElem?_map, HY.out.1]; rfl) z
              obtain ⟨rfl, rfl⟩ : g = g' ∧ og = 0 := by injection eg with e; injection e with e1 e2; exact ⟨e1, e2⟩
              have x1 : wd.drew.cell? ⟨g, j * 4 + 3, none⟩ = some (.int .i64 s) ∧ wd.drew.cell? ⟨b, off + q * 4 + 3, none⟩ = some (.int .i64 xa) ∧ wd.drew.frozen? ⟨g, j * 4 + 3, none⟩ = false := ⟨hln.2.2.2, (hbd.drew.cell (p := ⟨b, off + q * 4 + 3, none⟩) HBLT.out).trans HC.out.2, hfz _⟩
              have HE := Lib.hid (HNX.out (wd.drew.setCell ⟨g, j * 4 + 3, none⟩ (.int .i64 z)) (.slice (some ⟨g, 0, none⟩) N PC) ⟨by rw [HREP.out, List.map_set]; exact hset, HOW.out.2.1.trans ((hbd.drew.mono HOW.out.2.1.size).trans hbs)⟩)
              clear hownd hgb hgs hfz hln hset hbs hbd
              refine wp_region_any (by rfl) ?_
              change wpAny _ _ _ _ _ _ _ wd.drew
              refine wpAny_of_Z (S := fun wz => wz.cell? ⟨g, j * 4 + 3, none⟩ = some (.int .i64 s) ∧ wz.cell? ⟨b, off + q * 4 + 3, none⟩ = some (.int .i64 xa) ∧ wz.frozen? ⟨g, j * 4 + 3, none⟩ = false) (z := 15) _ _ _ _ ?_
              refine wpAnyZ_take (i := 0) (oi := { dst := some 48, op := _, type := _, pos := _, after := _, guard := _ }) (v := .slice (some ⟨g, 0, none⟩) N PC) rfl (by decide) (by kernel_rfl) (by kernel_rfl) (by kernel_rfl) (by kernel_rfl) (fun _ _ _ h => h) (Or.inl ⟨by rfl, fun wz hS => ?_⟩) x1 ?_
              · obtain ⟨y1, y2, y3⟩ := hS
                go_simp
                all_goals first | omega | simp [Addr.add]
              try simp only [Act.put, List.setIfInBounds_toArray, List.set_cons_zero, List.set_cons_succ]
              refine wpAnyZ_take (i := 1) (oi := { dst := some 49, op := _, type := _, pos := _, after := _, guard := _ }) (v := .int .i64 ((j : Nat) : Int)) rfl (by decide) (by kernel_rfl) (by kernel_rfl) (by kernel_rfl) (by kernel_rfl) (fun _ _ _ h => h) (Or.inl ⟨by rfl, fun wz hS => ?_⟩) x1 ?_
              · obtain ⟨y1, y2, y3⟩ := hS
                go_simp
                all_goals first | omega | simp [Addr.add]
              try simp only [Act.put, List.setIfInBounds_toArray, List.set_cons_zero, List.set_cons_succ]
              refine wpAnyZ_take (i := 2) (oi := { dst := some 50, op := _, type := _, pos := _, after := _, guard := _ }) (v := .slice (some ⟨g, 0, none⟩) N PC) rfl (by decide) (by kernel_rfl) (by kernel_rfl) (by kernel_rfl) (by kernel_rfl) (fun _ _ _ h => h) (Or.inl ⟨by rfl, fun wz hS => ?_⟩) x1 ?_
              · obtain ⟨y1, y2, y3⟩ := hS
                go_simp
                all_goals first | omega | simp [Addr.add]
              try simp only [Act.put, List.setIfInBounds_toArray, List.set_cons_zero, List.set_cons_succ]
              refine wpAnyZ_take (i := 3) (oi := { dst := some 51, op := _, type := _, pos := _, after := _, guard := _ }) (v := .int .i64 ((j : Nat) : Int)) rfl (by decide) (by kernel_rfl) (by kernel_rfl) (by kernel_rfl) (by kernel_rfl) (fun _ _ _ h => h) (Or.inl ⟨by rfl, fun wz hS => ?_⟩) x1 ?_
              · obtain ⟨y1, y2, y3⟩ := hS
                go_simp
                all_goals first | omega | simp [Addr.add]
              try simp only [Act.put, List.setIfInBounds_toArray, List.set_cons_zero, List.set_cons_succ]
              refine wpAnyZ_take (i := 4) (oi := { dst := some 52, op := _, type := _, pos := _, after := _, guard := _ }) (v := .pointer (some ⟨g, j * 4, none⟩)) rfl (by decide) (by kernel_rfl) (by kernel_rfl) (by kernel_rfl) (by kernel_rfl) (fun _ _ _ h => h) (Or.inl ⟨by rfl, fun wz hS => ?_⟩) x1 ?_
              · obtain ⟨y1, y2, y3⟩ := hS
                go_simp
                all_goals first | omega | simp [Addr.add]
              try simp only [Act.put, List.setIfInBounds_toArray, List.set_cons_zero, List.set_cons_succ]
              refine wpAnyZ_take (i := 5) (oi := { dst := some 53, op := _, type := _, pos := _, after := _, guard := _ }) (v := .pointer (some ⟨g, j * 4 + 3, none⟩)) rfl (by decide) (by kernel_rfl) (by kernel_rfl) (by kernel_rfl) (by kernel_rfl) (fun _ _ _ h => h) (Or.inl ⟨by rfl, fun wz hS => ?_⟩) x1 ?_
              · obtain ⟨y1, y2, y3⟩ := hS
                go_simp
                all_goals first | omega | simp [Addr.add]
              try simp only [Act.put, List.setIfInBounds_toArray, List.set_cons_zero, List.set_cons_succ]
              refine wpAnyZ_take (i := 6) (oi := { dst := some 54, op := _, type := _, pos := _, after := _, guard := _ }) (v := .int .i64 s) rfl (by decide) (by kernel_rfl) (by kernel_rfl) (by kernel_rfl) (by kernel_rfl) (fun _ _ _ h => h) (Or.inl ⟨by rfl, fun wz hS => ?_⟩) x1 ?_
              · obtain ⟨y1, y2, y3⟩ := hS
                go_simp
                all_goals first | omega | simp [Addr.add]
              try simp only [Act.put, List.setIfInBounds_toArray, List.set_cons_zero, List.set_cons_succ]
              refine wpAnyZ_take (i := 7) (oi := { dst := some 55, op := _, type := _, pos := _, after := _, guard := _ }) (v := .slice (some ⟨b, off, none⟩) n k) rfl (by decide) (by kernel_rfl) (by kernel_rfl) (by kernel_rfl) (by kernel_rfl) (fun _ _ _ h => h) (Or.inl ⟨by rfl, fun wz hS => ?_⟩) x1 ?_
              · obtain ⟨y1, y2, y3⟩ := hS
                go_simp
                all_goals first | omega | simp [Addr.add]
              try simp only [Act.put, List.setIfInBounds_toArray, List.set_cons_zero, List.set_cons_succ]
              refine wpAnyZ_take (i := 8) (oi := { dst := some 56, op := _, type := _, pos := _, after := _, guard := _ }) (v := .int .i64 ((q : Nat) : Int)) rfl (by decide) (by kernel_rfl) (by kernel_rfl) (by kernel_rfl) (by kernel_rfl) (fun _ _ _ h => h) (Or.inl ⟨by rfl, fun wz hS => ?_⟩) x1 ?_
              · obtain ⟨y1, y2, y3⟩ := hS
                go_simp
                all_goals first | omega | simp [Addr.add]
              try simp only [Act.put, List.setIfInBounds_toArray, List.set_cons_zero, List.set_cons_succ]
              refine wpAnyZ_take (i := 9) (oi := { dst := some 57, op := _, type := _, pos := _, after := _, guard := _ }) (v := .pointer (some ⟨b, off + q * 4, none⟩)) rfl (by decide) (by kernel_rfl) (by kernel_rfl) (by kernel_rfl) (by kernel_rfl) (fun _ _ _ h => h) (Or.inl ⟨by rfl, fun wz hS => ?_⟩) x1 ?_
              · obtain ⟨y1, y2, y3⟩ := hS
                go_simp
                all_goals first | omega | simp [Addr.add]
              try simp only [Act.put, List.setIfInBounds_toArray, List.set_cons_zero, List.set_cons_succ]
              refine wpAnyZ_take (i := 10) (oi := { dst := some 58, op := _, type := _, pos := _, after := _, guard := _ }) (v := .pointer (some ⟨b, off + q * 4 + 3, none⟩)) rfl (by decide) (by kernel_rfl) (by kernel_rfl) (by kernel_rfl) (by kernel_rfl) (fun _ _ _ h => h) (Or.inl ⟨by rfl, fun wz hS => ?_⟩) x1 ?_
              · obtain ⟨y1, y2, y3⟩ := hS
                go_simp
                all_goals first | omega | simp [Addr.add]
              try simp only [Act.put, List.setIfInBounds_toArray, List.set_cons_zero, List.set_cons_succ]
              refine wpAnyZ_take (i := 11) (oi := { dst := some 59, op := _, type := _, pos := _, after := _, guard := _ }) (v := .int .i64 xa) rfl (by decide) (by kernel_rfl) (by kernel_rfl) (by kernel_rfl) (by kernel_rfl) (fun _ _ _ h => h) (Or.inl ⟨by rfl, fun wz hS => ?_⟩) x1 ?_
              · obtain ⟨y1, y2, y3⟩ := hS
                go_simp
                all_goals first | omega | simp [Addr.add]
              try simp only [Act.put, List.setIfInBounds_toArray, List.set_cons_zero, List.set_cons_succ]
              refine wpAnyZ_take (i := 12) (oi := { dst := some 60, op := _, type := _, pos := _, after := _, guard := _ }) (v := .int .i64 z) rfl (by decide) (by kernel_rfl) (by kernel_rfl) (by kernel_rfl) (by kernel_rfl) (fun _ _ _ h => h) (Or.inl ⟨by rfl, fun wz hS => ?_⟩) x1 ?_
              · obtain ⟨y1, y2, y3⟩ := hS
                go_simp
                all_goals first | omega | simp [Addr.add]
              try simp only [Act.put, List.setIfInBounds_toArray, List.set_cons_zero, List.set_cons_succ]
              have x2 := x1
              obtain ⟨y1, y2, y3⟩ := x2
              refine wpAnyZ_one (j := 13) (o := { dst := some 61, op := _, type := _, pos := _, after := _, guard := _ }) rfl (by kernel_rfl) (by decide) ?_
              intro K1 hK1
              rw [if_pos (by rfl)]
              go_simp
              refine hK1 _ _ x1 ?_
              clear hK1 K1
              try simp only [Act.put, List.setIfInBounds_toArray, List.set_cons_zero, List.set_cons_succ]
              refine wpAnyZ_one (j := 14) (o := { dst := some 62, op := _, type := _, pos := _, after := _, guard := _ }) rfl (by kernel_rfl) (by decide) ?_
              intro K1 hK1
              rw [if_pos (by rfl)]
              go_simp
              refine hK1 _ _ x1 ?_
              clear hK1 K1
              try simp only [Act.put, List.setIfInBounds_toArray, List.set_cons_zero, List.set_cons_succ]
              refine wpAnyZ_last (o := { dst := none, op := _, type := _, pos := _, after := _, guard := _ }) rfl (by kernel_rfl) ?_
              intro K1 hK1
              rw [if_pos (by rfl)]
              go_simp
              refine hK1 _ _ ?_
              clear hK1 K1
              refine wpAny_done (by kernel_rfl) ?_ _
              clear y1 y2 y3
              go_wp2
              go_roundw
              case rel => exact ⟨q + 1, by omega, by go_num, HE⟩
              case measure => simp [intOf]; omega
            · have hgt : xf < y.1 := by omega
              have HINS := Lib.hid (addF_ins (L := L) (j := j) (f := xf) (a := xa) (by rw [← HNN.out]; exact hj) hno (fun z hz => by rw [hy] at hz; cases hz; exact hgt))
              have hbne : (y.1 == xf) = false := by simpa using hxe
              generalize y.1 = yf at d0' hlx hbne
              obtain ⟨A2, m2, k2, HA2, hm2, hsb⟩ : ∃ A2 m2 k2, Hid ((if PC = j then (some (⟨g, og, none⟩ : Addr)) else Option.map (fun a : Addr => a.add (j * 4)) (some (⟨g, og, none⟩ : Addr))) = A2 ∧ N - j = m2 ∧ PC - j = k2) ∧ m2 ≤ 1073741823 ∧ RL w1 w1.heap.size A2 m2 ((L.map fundLn).drop j) := ⟨_, _, _, Lib.hid ⟨rfl, rfl, rfl⟩, by omega, HOW.out.2.2.back (j := j) hj hPC⟩
              have hsf := HOW.out.2.2.front (j := j) hj
              have hxk : LnOk ⟨xf, 0, 0, xa⟩ := ⟨HOK.out.1.1, by show B64 0; unfold B64; omega, by show B64 0; unfold B64; omega, HOK.out.1.2.2.2⟩
              have HIA := Lib.hid (fun (wd : World) (hb : Below w1.heap.size w1 wd) => insLA (c1 := PC) (c2 := k2) (x := ⟨xf, 0, 0, xa⟩) hb hsf hsb hxk (by omega) hm2)
              have HIB := Lib.hid (fun (wd : World) (hb : Below w1.heap.size w1 wd) => insLB (c1 := PC) (c2 := k2) (x := ⟨xf, 0, 0, xa⟩) hb hsf hsb hxk (by omega) hm2)
              have HSX := Lib.hid (fun (W : World) (hb : Below w1.heap.size w1 W) => And.intro ((hb.cell (p := ⟨b, off + q * 4, none⟩) HBLT.out).trans HC.out.1) ((hb.cell (p := ⟨b, off + q * 4 + 3, none⟩) HBLT.out).trans HC.out.2))
              have HFIN := Lib.hid (fun (v8 : Value) (w8 : World) (ho : LOwn w8 w1.heap.size v8 ((L.map fundLn).take j ++ [⟨xf, 0, 0, xa⟩] ++ (L.map fundLn).drop j)) (hb : Below w1.heap.size w1 w8) => HNX.out w8 v8 ⟨by rw [HINS.out, List.map_append, List.map_append, ← List.map_take, ← List.map_drop] at *; exact ho.base_le HOW.out.2.1.size, HOW.out.2.1.trans (hb.mono HOW.out.2.1.size)⟩)
              clear hsb hsf hxk hm2 hy hno hbw hpat d0 d1 d2 d3 HM hxe hgt
              go_wp2_with fail
              go_quiet (fail)
              revert nq
              intro nq1
              go_wp2_with fail
              go_quiet (fail)
              go_wp2_with fail
              obtain ⟨wd, hwd⟩ : ∃ wd, wd = (W.drewN nq1).drewN nq := ⟨_, rfl⟩
              have HBD := Lib.hid (show Below w1.heap.size w1 wd by rw [hwd]; exact below_drewQ (below_drewQ HBW.out _) _)
              rw [← hwd]
              clear hwd
              replace HIA := Lib.hid (HIA.out wd HBD.out)
              replace HIB := Lib.hid (HIB.out wd HBD.out)
              have hk0 : (0 : Int) ≤ (j : Int) := by omega
              have hkc : (j : Int) ≤ (PC : Int) := by omega
              have hkn : (j : Int) ≤ (N : Int) := by omega
              have x1 : wd.drew.cell? ⟨b, off + q * 4, none⟩ = some (.int .i64 xf) ∧ wd.drew.cell? ⟨b, off + q * 4 + 3, none⟩ = some (.int .i64 xa) := HSX.out _ HBD.out.drew
              refine wp_region_any (by rfl) ?_
              change wpAny _ _ _ _ _ _ _ wd.drew
              refine wpAny_of_Z (S := fun wz => wz.cell? ⟨b, off + q * 4, none⟩ = some (.int .i64 xf) ∧ wz.cell? ⟨b, off + q * 4 + 3, none⟩ = some (.int .i64 xa)) (z := 21) _ _ _ _ ?_
              refine wpAnyZ_take (i := 0) (oi := { dst := some 63, op := _, type := _, pos := _, after := _, guard := _ }) (v := .slice (some ⟨g, og, none⟩) N PC) rfl (by decide) (by kernel_rfl) (by kernel_rfl) (by kernel_rfl) (by kernel_rfl) (fun _ _ _ h => h) (Or.inl ⟨by rfl, fun wz hS => ?_⟩) x1 ?_
              · obtain ⟨y1, y2⟩ := hS
                go_simp
                all_goals first | omega | simp [Addr.add]
              try simp only [Act.put, List.setIfInBounds_toArray, List.set_cons_zero, List.set_cons_succ]
              refine wpAnyZ_take (i := 1) (oi := { dst := some 64, op := _, type := _, pos := _, after := _, guard := _ }) (v := .int .i64 ((j : Nat) : Int)) rfl (by decide) (by kernel_rfl) (by kernel_rfl) (by kernel_rfl) (by kernel_rfl) (fun _ _ _ h => h) (Or.inl ⟨by rfl, fun wz hS => ?_⟩) x1 ?_
              · obtain ⟨y1, y2⟩ := hS
                go_simp
                all_goals first | omega | simp [Addr.add]
              try simp only [Act.put, List.setIfInBounds_toArray, List.set_cons_zero, List.set_cons_succ]
              refine wpAnyZ_take (i := 2) (oi := { dst := some 65, op := _, type := _, pos := _, after := _, guard := _ }) (v := .slice (some ⟨g, og, none⟩) j PC) rfl (by decide) (by kernel_rfl) (by kernel_rfl) (by kernel_rfl) (by kernel_rfl) (fun _ _ _ h => h) (Or.inl ⟨by rfl, fun wz hS => ?_⟩) x1 ?_
              · obtain ⟨y1, y2⟩ := hS
                go_simp
                all_goals first | omega | simp [Addr.add]
              try simp only [Act.put, List.setIfInBounds_toArray, List.set_cons_zero, List.set_cons_succ]
              refine wpAnyZ_take (i := 4) (oi := { dst := some 67, op := _, type := _, pos := _, after := _, guard := _ }) (v := .slice (some ⟨b, off, none⟩) n k) rfl (by decide) (by kernel_rfl) (by kernel_rfl) (by kernel_rfl) (by kernel_rfl) (fun _ _ _ h => h) (Or.inl ⟨by rfl, fun wz hS => ?_⟩) x1 ?_
              · obtain ⟨y1, y2⟩ := hS
                go_simp
                all_goals first | omega | simp [Addr.add]
              try simp only [Act.put, List.setIfInBounds_toArray, List.set_cons_zero, List.set_cons_succ]
              refine wpAnyZ_take (i := 5) (oi := { dst := some 68, op := _, type := _, pos := _, after := _, guard := _ }) (v := .int .i64 ((q : Nat) : Int)) rfl (by decide) (by kernel_rfl) (by kernel_rfl) (by kernel_rfl) (by kernel_rfl) (fun _ _ _ h => h) (Or.inl ⟨by rfl, fun wz hS => ?_⟩) x1 ?_
              · obtain ⟨y1, y2⟩ := hS
                go_simp
                all_goals first | omega | simp [Addr.add]
              try simp only [Act.put, List.setIfInBounds_toArray, List.set_cons_zero, List.set_cons_succ]
              refine wpAnyZ_take (i := 6) (oi := { dst := some 69, op := _, type := _, pos := _, after := _, guard := _ }) (v := .pointer (some ⟨b, off + q * 4, none⟩)) rfl (by decide) (by kernel_rfl) (by kernel_rfl) (by kernel_rfl) (by kernel_rfl) (fun _ _ _ h => h) (Or.inl ⟨by rfl, fun wz hS => ?_⟩) x1 ?_
              · obtain ⟨y1, y2⟩ := hS
                go_simp
                all_goals first | omega | simp [Addr.add]
              try simp only [Act.put, List.setIfInBounds_toArray, List.set_cons_zero, List.set_cons_succ]
              refine wpAnyZ_take (i := 7) (oi := { dst := some 70, op := _, type := _, pos := _, after := _, guard := _ }) (v := .pointer (some ⟨b, off + q * 4, none⟩)) rfl (by decide) (by kernel_rfl) (by kernel_rfl) (by kernel_rfl) (by kernel_rfl) (fun _ _ _ h => h) (Or.inl ⟨by rfl, fun wz hS => ?_⟩) x1 ?_
              · obtain ⟨y1, y2⟩ := hS
                go_simp
                all_goals first | omega | simp [Addr.add]
              try simp only [Act.put, List.setIfInBounds_toArray, List.set_cons_zero, List.set_cons_succ]
              refine wpAnyZ_take (i := 8) (oi := { dst := some 71, op := _, type := _, pos := _, after := _, guard := _ }) (v := .int .i64 xf) rfl (by decide) (by kernel_rfl) (by kernel_rfl) (by kernel_rfl) (by kernel_rfl) (fun _ _ _ h => h) (Or.inl ⟨by rfl, fun wz hS => ?_⟩) x1 ?_
              · obtain ⟨y1, y2⟩ := hS
                go_simp
                all_goals first | omega | simp [Addr.add]
              try simp only [Act.put, List.setIfInBounds_toArray, List.set_cons_zero, List.set_cons_succ]
              refine wpAnyZ_take (i := 9) (oi := { dst := some 72, op := _, type := _, pos := _, after := _, guard := _ }) (v := .slice (some ⟨b, off, none⟩) n k) rfl (by decide) (by kernel_rfl) (by kernel_rfl) (by kernel_rfl) (by kernel_rfl) (fun _ _ _ h => h) (Or.inl ⟨by rfl, fun wz hS => ?_⟩) x1 ?_
              · obtain ⟨y1, y2⟩ := hS
                go_simp
                all_goals first | omega | simp [Addr.add]
              try simp only [Act.put, List.setIfInBounds_toArray, List.set_cons_zero, List.set_cons_succ]
              refine wpAnyZ_take (i := 10) (oi := { dst := some 73, op := _, type := _, pos := _, after := _, guard := _ }) (v := .int .i64 ((q : Nat) : Int)) rfl (by decide) (by kernel_rfl) (by kernel_rfl) (by kernel_rfl) (by kernel_rfl) (fun _ _ _ h => h) (Or.inl ⟨by rfl, fun wz hS => ?_⟩) x1 ?_
              · obtain ⟨y1, y2⟩ := hS
                go_simp
                all_goals first | omega | simp [Addr.add]
              try simp only [Act.put, List.setIfInBounds_toArray, List.set_cons_zero, List.set_cons_succ]
              refine wpAnyZ_take (i := 11) (oi := { dst := some 74, op := _, type := _, pos := _, after := _, guard := _ }) (v := .pointer (some ⟨b, off + q * 4, none⟩)) rfl (by decide) (by kernel_rfl) (by kernel_rfl) (by kernel_rfl) (by kernel_rfl) (fun _ _ _ h => h) (Or.inl ⟨by rfl, fun wz hS => ?_⟩) x1 ?_
              · obtain ⟨y1, y2⟩ := hS
                go_simp
                all_goals first | omega | simp [Addr.add]
              try simp only [Act.put, List.setIfInBounds_toArray, List.set_cons_zero, List.set_cons_succ]
              refine wpAnyZ_take (i := 12) (oi := { dst := some 75, op := _, type := _, pos := _, after := _, guard := _ }) (v := .pointer (some ⟨b, off + q * 4 + 3, none⟩)) rfl (by decide) (by kernel_rfl) (by kernel_rfl) (by kernel_rfl) (by kernel_rfl) (fun _ _ _ h => h) (Or.inl ⟨by rfl, fun wz hS => ?_⟩) x1 ?_
              · obtain ⟨y1, y2⟩ := hS
                go_simp
                all_goals first | omega | simp [Addr.add]
              try simp only [Act.put, List.setIfInBounds_toArray, List.set_cons_zero, List.set_cons_succ]
              refine wpAnyZ_take (i := 13) (oi := { dst := some 76, op := _, type := _, pos := _, after := _, guard := _ }) (v := .int .i64 xa) rfl (by decide) (by kernel_rfl) (by kernel_rfl) (by kernel_rfl) (by kernel_rfl) (fun _ _ _ h => h) (Or.inl ⟨by rfl, fun wz hS => ?_⟩) x1 ?_
              · obtain ⟨y1, y2⟩ := hS
                go_simp
                all_goals first | omega | simp [Addr.add]
              try simp only [Act.put, List.setIfInBounds_toArray, List.set_cons_zero, List.set_cons_succ]
              refine wpAnyZ_take (i := 14) (oi := { dst := some 77, op := _, type := _, pos := _, after := _, guard := _ }) (v := .agg #[.int .i64 xf, .int .i64 0, .int .i64 0, .int .i64 xa]) rfl (by decide) (by kernel_rfl) (by kernel_rfl) (by kernel_rfl) (by kernel_rfl) (fun _ _ _ h => h) (Or.inl ⟨by rfl, fun wz hS => ?_⟩) x1 ?_
              · obtain ⟨y1, y2⟩ := hS
                go_simp
                all_goals first | omega | simp [Addr.add]
              try simp only [Act.put, List.setIfInBounds_toArray, List.set_cons_zero, List.set_cons_succ]
              refine wpAnyZ_take (i := 17) (oi := { dst := some 80, op := _, type := _, pos := _, after := _, guard := _ }) (v := .slice (some ⟨g, og, none⟩) N PC) rfl (by decide) (by kernel_rfl) (by kernel_rfl) (by kernel_rfl) (by kernel_rfl) (fun _ _ _ h => h) (Or.inl ⟨by rfl, fun wz hS => ?_⟩) x1 ?_
              · obtain ⟨y1, y2⟩ := hS
                go_simp
                all_goals first | omega | simp [Addr.add]
              try simp only [Act.put, List.setIfInBounds_toArray, List.set_cons_zero, List.set_cons_succ]
              refine wpAnyZ_take (i := 18) (oi := { dst := some 81, op := _, type := _, pos := _, after := _, guard := _ }) (v := .int .i64 ((j : Nat) : Int)) rfl (by decide) (by kernel_rfl) (by kernel_rfl) (by kernel_rfl) (by kernel_rfl) (fun _ _ _ h => h) (Or.inl ⟨by rfl, fun wz hS => ?_⟩) x1 ?_
              · obtain ⟨y1, y2⟩ := hS
                go_simp
                all_goals first | omega | simp [Addr.add]
              try simp only [Act.put, List.setIfInBounds_toArray, List.set_cons_zero, List.set_cons_succ]
              refine wpAnyZ_take (i := 19) (oi := { dst := some 82, op := _, type := _, pos := _, after := _, guard := _ }) (v := .slice A2 m2 k2) rfl (by decide) (by kernel_rfl) (by kernel_rfl) (by kernel_rfl) (by kernel_rfl) (fun _ _ _ h => h) (Or.inl ⟨by rfl, fun wz hS => ?_⟩) x1 ?_
              · obtain ⟨y1, y2⟩ := hS
                obtain ⟨e1, e2, e3⟩ := HA2.out
                subst e1 e2 e3
                go_simp
                all_goals first | omega | simp [Addr.add]
              try simp only [Act.put, List.setIfInBounds_toArray, List.set_cons_zero, List.set_cons_succ]
              refine wpAnyZ_two (j := 3) (k := 15) (o := { dst := some 66, op := _, type := _, pos := _, after := _, guard := none }) (o' := { dst := some 78, op := _, type := _, pos := _, after := _, guard := none }) rfl rfl (by kernel_rfl) (by decide) (by decide) ?_ ?_
              · intro K1 hK1
                obtain ⟨v6, w6, hr6, hb6, hba, hE⟩ := HIA.out
                refine step_append_runQ (by rfl) (.const (.slice none 0 0)) (.tmp 65) _ _ (by rfl) _ _ (by rfl) (by rfl) hr6 ?_
                refine hK1 _ _ (HSX.out _ hb6) ?_
                clear hK1 K1 hr6
                try simp only [Act.put, List.setIfInBounds_toArray, List.set_cons_zero, List.set_cons_succ]
                refine wpAnyZ_one (j := 15) (o := { dst := some 78, op := _, type := _, pos := _, after := _, guard := none }) rfl (by kernel_rfl) (by decide) ?_
                intro K1 hK1
                rw [if_pos (by rfl)]
                go_simp
                refine hK1 _ _ (HSX.out _ hba) ?_
                clear hK1 K1
                generalize w6.alloc (.cells #[.int .i64 xf, .int .i64 0, .int .i64 0, .int .i64 xa] 37 (0, 0)) = W at hba hE ⊢
                generalize w6.heap.size = gl at hE ⊢
                try simp only [Act.put, List.setIfInBounds_toArray, List.set_cons_zero, List.set_cons_succ]
                obtain ⟨v7, w7, hr7, hb7, v8, w8, hr8, hb8, ho8⟩ := hE
                refine wpAnyZ_one (j := 16) (o := { dst := some 79, op := _, type := _, pos := _, after := _, guard := none }) rfl (by kernel_rfl) (by decide) ?_
                intro K1 hK1
                refine step_append_runQ (by rfl) (.tmp 66) (.tmp 78) _ _ (by rfl) _ _ (by rfl) (by rfl) hr7 ?_
                refine hK1 _ _ (HSX.out _ hb7) ?_
                clear hK1 K1 hr7
                try simp only [Act.put, List.setIfInBounds_toArray, List.set_cons_zero, List.set_cons_succ]
                refine wpAnyZ_one (j := 20) (o := { dst := some 83, op := _, type := _, pos := _, after := _, guard := none }) rfl (by kernel_rfl) (by decide) ?_
                intro K1 hK1
                refine step_append_runQ (by rfl) (.tmp 79) (.tmp 82) _ _ (by rfl) _ _ (by rfl) (by rfl) hr8 ?_
                have y8 := HSX.out _ hb8
                refine hK1 _ _ y8 ?_
                clear hK1 K1 hr8
                try simp only [Act.put, List.setIfInBounds_toArray, List.set_cons_zero, List.set_cons_succ]
                refine wpAnyZ_last (o := { dst := some 3, op := _, type := _, pos := _, after := _, guard := _ }) rfl (by kernel_rfl) ?_
                intro K1 hK1
                rw [if_pos (by rfl)]
                go_simp
                refine hK1 _ _ ?_
                clear hK1 K1
                refine wpAny_done (by kernel_rfl) ?_ _
                have HE := Lib.hid (HFIN.out v8 w8 ho8 hb8)
                clear ho8 hb8 y8 x1 hb7
                go_wp2
                go_roundw
                case rel => exact ⟨q + 1, by omega, by go_num, HE⟩
                case measure => simp [intOf]; omega
              · intro K1 hK1
                obtain ⟨hbd, v6, w6, hr6, hb6, hE⟩ := HIB.out
                rw [if_pos (by rfl)]
                go_simp
                refine hK1 _ _ (HSX.out _ hbd) ?_
                clear hK1 K1
                try simp only [Act.put, List.setIfInBounds_toArray, List.set_cons_zero, List.set_cons_succ]
                refine wpAnyZ_one (j := 3) (o := { dst := some 66, op := _, type := _, pos := _, after := _, guard := none }) rfl (by kernel_rfl) (by decide) ?_
                intro K1 hK1
                refine step_append_runQ (by rfl) (.const (.slice none 0 0)) (.tmp 65) _ _ (by rfl) _ _ (by rfl) (by rfl) hr6 ?_
                refine hK1 _ _ (HSX.out _ hb6) ?_
                clear hK1 K1 hr6 hbd
                generalize w6 = W at hE ⊢
                generalize wd.heap.size = gl at hE ⊢
                try simp only [Act.put, List.setIfInBounds_toArray, List.set_cons_zero, List.set_cons_succ]
                obtain ⟨v7, w7, hr7, hb7, v8, w8, hr8, hb8, ho8⟩ := hE
                refine wpAnyZ_one (j := 16) (o := { dst := some 79, op := _, type := _, pos := _, after := _, guard := none }) rfl (by kernel_rfl) (by decide) ?_
                intro K1 hK1
                refine step_append_runQ (by rfl) (.tmp 66) (.tmp 78) _ _ (by rfl) _ _ (by rfl) (by rfl) hr7 ?_
                refine hK1 _ _ (HSX.out _ hb7) ?_
                clear hK1 K1 hr7
                try simp only [Act.put, List.setIfInBounds_toArray, List.set_cons_zero, List.set_cons_succ]
                refine wpAnyZ_one (j := 20) (o := { dst := some 83, op := _, type := _, pos := _, after := _, guard := none }) rfl (by kernel_rfl) (by decide) ?_
                intro K1 hK1
                refine step_append_runQ (by rfl) (.tmp 79) (.tmp 82) _ _ (by rfl) _ _ (by rfl) (by rfl) hr8 ?_
                have y8 := HSX.out _ hb8
                refine hK1 _ _ y8 ?_
                clear hK1 K1 hr8
                try simp only [Act.put, List.setIfInBounds_toArray, List.set_cons_zero, List.set_cons_succ]
                refine wpAnyZ_last (o := { dst := some 3, op := _, type := _, pos := _, after := _, guard := _ }) rfl (by kernel_rfl) ?_
                intro K1 hK1
                rw [if_pos (by rfl)]
                go_simp
                refine hK1 _ _ ?_
                clear hK1 K1
                refine wpAny_done (by kernel_rfl) ?_ _
                have HE := Lib.hid (HFIN.out v8 w8 ho8 hb8)
                clear ho8 hb8 y8 x1 hb7
                go_wp2
                go_roundw
                case rel => exact ⟨q + 1, by omega, by go_num, HE⟩
                case measure => simp [intOf]; omega
        · obtain rfl : j = N := by omega
          have HINS := Lib.hid (addF_ins (L := L) (j := j) (f := xf) (a := xa) (by rw [← HNN.out]; exact hj) hno (fun z hz => by rw [List.getElem?_eq_none (by rw [← HNN.out]; exact Nat.le_refl _)] at hz; cases hz))
          have HBW := Lib.hid hbw
          obtain ⟨A2, m2, k2, HA2, hm2, hsb⟩ : ∃ A2 m2 k2, Hid ((if PC = j then PA else Option.map (fun a : Addr => a.add (j * 4)) PA) = A2 ∧ j - j = m2 ∧ PC - j = k2) ∧ m2 ≤ 1073741823 ∧ RL w1 w1.heap.size A2 m2 ((L.map fundLn).drop j) := ⟨_, _, _, Lib.hid ⟨rfl, rfl, rfl⟩, by omega, HOW.out.2.2.back (j := j) hj hPC⟩
          have hsf := HOW.out.2.2.front (j := j) hj
          have hxk : LnOk ⟨xf, 0, 0, xa⟩ := ⟨HOK.out.1.1, by show B64 0; unfold B64; omega, by show B64 0; unfold B64; omega, HOK.out.1.2.2.2⟩
          have HIA := Lib.hid (fun (wd : World) (hb : Below w1.heap.size w1 wd) => insLA (c1 := PC) (c2 := k2) (x := ⟨xf, 0, 0, xa⟩) hb hsf hsb hxk (by omega) hm2)
          have HIB := Lib.hid (fun (wd : World) (hb : Below w1.heap.size w1 wd) => insLB (c1 := PC) (c2 := k2) (x := ⟨xf, 0, 0, xa⟩) hb hsf hsb hxk (by omega) hm2)
          have HSX := Lib.hid (fun (W : World) (hb : Below w1.heap.size w1 W) => And.intro ((hb.cell (p := ⟨b, off + q * 4, none⟩) HBLT.out).trans HC.out.1) ((hb.cell (p := ⟨b, off + q * 4 + 3, none⟩) HBLT.out).trans HC.out.2))
          have HFIN := Lib.hid (fun (v8 : Value) (w8 : World) (ho : LOwn w8 w1.heap.size v8 ((L.map fundLn).take j ++ [⟨xf, 0, 0, xa⟩] ++ (L.map fundLn).drop j)) (hb : Below w1.heap.size w1 w8) => HNX.out w8 v8 ⟨by rw [HINS.out, List.map_append, List.map_append, ← List.map_take, ← List.map_drop] at *; exact ho.base_le HOW.out.2.1.size, HOW.out.2.1.trans (hb.mono HOW.out.2.1.size)⟩)
          have hjj : ¬ ((j : Int) < (j : Int)) := by omega
          clear hsb hsf hxk hm2 hno hbw HM
          go_wp2_with fail
          go_quiet (fail)
          revert nq
          intro nq1
          go_wp2_with fail
          go_quiet (fail)
          go_wp2_with fail
          obtain ⟨wd, hwd⟩ : ∃ wd, wd = (W.drewN nq1).drewN nq := ⟨_, rfl⟩
          have HBD := Lib.hid (show Below w1.heap.size w1 wd by rw [hwd]; exact below_drewQ (below_drewQ HBW.out _) _)
          rw [← hwd]
          clear hwd
          replace HIA := Lib.hid (HIA.out wd HBD.out)
          replace HIB := Lib.hid (HIB.out wd HBD.out)
          have hk0 : (0 : Int) ≤ (j : Int) := by omega
          have hkc : (j : Int) ≤ (PC : Int) := by omega
          have hkn : (j : Int) ≤ (j : Int) := by omega
          have x1 : wd.drew.cell? ⟨b, off + q * 4, none⟩ = some (.int .i64 xf) ∧ wd.drew.cell? ⟨b, off + q * 4 + 3, none⟩ = some (.int .i64 xa) := HSX.out _ HBD.out.drew
          refine wp_region_any (by rfl) ?_
          change wpAny _ _ _ _ _ _ _ wd.drew
          refine wpAny_of_Z (S := fun wz => wz.cell? ⟨b, off + q * 4, none⟩ = some (.int .i64 xf) ∧ wz.cell? ⟨b, off + q * 4 + 3, none⟩ = some (.int .i64 xa)) (z := 21) _ _ _ _ ?_
          refine wpAnyZ_take (i := 0) (oi := { dst := some 63, op := _, type := _, pos := _, after := _, guard := _ }) (v := .slice PA j PC) rfl (by decide) (by kernel_rfl) (by kernel_rfl) (by kernel_rfl) (by kernel_rfl) (fun _ _ _ h => h) (Or.inl ⟨by rfl, fun wz hS => ?_⟩) x1 ?_
          · obtain ⟨y1, y2⟩ := hS
            go_simp
            all_goals first | omega | simp [Addr.add]
          try simp only [Act.put, List.setIfInBounds_toArray, List.set_cons_zero, List.set_cons_succ]
          refine wpAnyZ_take (i := 1) (oi := { dst := some 64, op := _, type := _, pos := _, after := _, guard := _ }) (v := .int .i64 ((j : Nat) : Int)) rfl (by decide) (by kernel_rfl) (by kernel_rfl) (by kernel_rfl) (by kernel_rfl) (fun _ _ _ h => h) (Or.inl ⟨by rfl, fun wz hS => ?_⟩) x1 ?_
          · obtain ⟨y1, y2⟩ := hS
            go_simp
            all_goals first | omega | simp [Addr.add]
          try simp only [Act.put, List.setIfInBounds_toArray, List.set_cons_zero, List.set_cons_succ]
          refine wpAnyZ_take (i := 2) (oi := { dst := some 65, op := _, type := _, pos := _, after := _, guard := _ }) (v := .slice PA j PC) rfl (by decide) (by kernel_rfl) (by kernel_rfl) (by kernel_rfl) (by kernel_rfl) (fun _ _ _ h => h) (Or.inl ⟨by rfl, fun wz hS => ?_⟩) x1 ?_
          · obtain ⟨y1, y2⟩ := hS
            go_simp
            all_goals first | omega | simp [Addr.add]
          try simp only [Act.put, List.setIfInBounds_toArray, List.set_cons_zero, List.set_cons_succ]
          refine wpAnyZ_take (i := 4) (oi := { dst := some 67, op := _, type := _, pos := _, after := _, guard := _ }) (v := .slice (some ⟨b, off, none⟩) n k) rfl (by decide) (by kernel_rfl) (by kernel_rfl) (by kernel_rfl) (by kernel_rfl) (fun _ _ _ h => h) (Or.inl ⟨by rfl, fun wz hS => ?_⟩) x1 ?_
          · obtain ⟨y1, y2⟩ := hS
            go_simp
            all_goals first | omega | simp [Addr.add]
          try simp only [Act.put, List.setIfInBounds_toArray, List.set_cons_zero, List.set_cons_succ]
          refine wpAnyZ_take (i := 5) (oi := { dst := some 68, op := _, type := _, pos := _, after := _, guard := _ }) (v := .int .i64 ((q : Nat) : Int)) rfl (by decide) (by kernel_rfl) (by kernel_rfl) (by kernel_rfl) (by kernel_rfl) (fun _ _ _ h => h) (Or.inl ⟨by rfl, fun wz hS => ?_⟩) x1 ?_
          · obtain ⟨y1, y2⟩ := hS
            go_simp
            all_goals first | omega | simp [Addr.add]
          try simp only [Act.put, List.setIfInBounds_toArray, List.set_cons_zero, List.set_cons_succ]
          refine wpAnyZ_take (i := 6) (oi := { dst := some 69, op := _, type := _, pos := _, after := _, guard := _ }) (v := .pointer (some ⟨b, off + q * 4, none⟩)) rfl (by decide) (by kernel_rfl) (by kernel_rfl) (by kernel_rfl) (by kernel_rfl) (fun _ _ _ h => h) (Or.inl ⟨by rfl, fun wz hS => ?_⟩) x1 ?_
          · obtain ⟨y1, y2⟩ := hS
            go_simp
            all_goals first | omega | simp [Addr.add]
          try simp only [Act.put, List.setIfInBounds_toArray, List.set_cons_zero, List.set_cons_succ]
          refine wpAnyZ_take (i := 7) (oi := { dst := some 70, op := _, type := _, pos := _, after := _, guard := _ }) (v := .pointer (some ⟨b, off + q * 4, none⟩)) rfl (by decide) (by kernel_rfl) (by kernel_rfl) (by kernel_rfl) (by kernel_rfl) (fun _ _ _ h => h) (Or.inl ⟨by rfl, fun wz hS => ?_⟩) x1 ?_
          · obtain ⟨y1, y2⟩ := hS
            go_simp
            all_goals first | omega | simp [Addr.add]
          try simp only [Act.put, List.setIfInBounds_toArray, List.set_cons_zero, List.set_cons_succ]
          refine wpAnyZ_take (i := 8) (oi := { dst := some 71, op := _, type := _, pos := _, after := _, guard := _ }) (v := .int .i64 xf) rfl (by decide) (by kernel_rfl) (by kernel_rfl) (by kernel_rfl) (by kernel_rfl) (fun _ _ _ h => h) (Or.inl ⟨by rfl, fun wz hS => ?_⟩) x1 ?_
          · obtain ⟨y1, y2⟩ := hS
            go_simp
            all_goals first | omega | simp [Addr.add]
          try simp only [Act.put, List.setIfInBounds_toArray, List.set_cons_zero, List.set_cons_succ]
          refine wpAnyZ_take (i := 9) (oi := { dst := some 72, op := _, type := _, pos := _, after := _, guard := _ }) (v := .slice (some ⟨b, off, none⟩) n k) rfl (by decide) (by kernel_rfl) (by kernel_rfl) (by kernel_rfl) (by kernel_rfl) (fun _ _ _ h => h) (Or.inl ⟨by rfl, fun wz hS => ?_⟩) x1 ?_
          · obtain ⟨y1, y2⟩ := hS
            go_simp
            all_goals first | omega | simp [Addr.add]
          try simp only [Act.put, List.setIfInBounds_toArray, List.set_cons_zero, List.set_cons_succ]
          refine wpAnyZ_take (i := 10) (oi := { dst := some 73, op := _, type := _, pos := _, after := _, guard := _ }) (v := .int .i64 ((q : Nat) : Int)) rfl (by decide) (by kernel_rfl) (by kernel_rfl) (by kernel_rfl) (by kernel_rfl) (fun _ _ _ h => h) (Or.inl ⟨by rfl, fun wz hS => ?_⟩) x1 ?_
          · obtain ⟨y1, y2⟩ := hS
            go_simp
            all_goals first | omega | simp [Addr.add]
          try simp only [Act.put, List.setIfInBounds_toArray, List.set_cons_zero, List.set_cons_succ]
          refine wpAnyZ_take (i := 11) (oi := { dst := some 74, op := _, type := _, pos := _, after := _, guard := _ }) (v := .pointer (some ⟨b, off + q * 4, none⟩)) rfl (by decide) (by kernel_rfl) (by kernel_rfl) (by kernel_rfl) (by kernel_rfl) (fun _ _ _ h => h) (Or.inl ⟨by rfl, fun wz hS => ?_⟩) x1 ?_
          · obtain ⟨y1, y2⟩ := hS
            go_simp
            all_goals first | omega | simp [Addr.add]
          try simp only [Act.put, List.setIfInBounds_toArray, List.set_cons_zero, List.set_cons_succ]
          refine wpAnyZ_take (i := 12) (oi := { dst := some 75, op := _, type := _, pos := _, after := _, guard := _ }) (v := .pointer (some ⟨b, off + q * 4 + 3, none⟩)) rfl (by decide) (by kernel_rfl) (by kernel_rfl) (by kernel_rfl) (by kernel_rfl) (fun _ _ _ h => h) (Or.inl ⟨by rfl, fun wz hS => ?_⟩) x1 ?_
          · obtain ⟨y1, y2⟩ := hS
            go_simp
            all_goals first | omega | simp [Addr.add]
          try simp only [Act.put, List.setIfInBounds_toArray, List.set_cons_zero, List.set_cons_succ]
          refine wpAnyZ_take (i := 13) (oi := { dst := some 76, op := _, type := _, pos := _, after := _, guard := _ }) (v := .int .i64 xa) rfl (by decide) (by kernel_rfl) (by kernel_rfl) (by kernel_rfl) (by kernel_rfl) (fun _ _ _ h => h) (Or.inl ⟨by rfl, fun wz hS => ?_⟩) x1 ?_
          · obtain ⟨y1, y2⟩ := hS
            go_simp
            all_goals first | omega | simp [Addr.add]
          try simp only [Act.put, List.setIfInBounds_toArray, List.set_cons_zero, List.set_cons_succ]
          refine wpAnyZ_take (i := 14) (oi := { dst := some 77, op := _, type := _, pos := _, after := _, guard := _ }) (v := .agg #[.int .i64 xf, .int .i64 0, .int .i64 0, .int .i64 xa]) rfl (by decide) (by kernel_rfl) (by kernel_rfl) (by kernel_rfl) (by kernel_rfl) (fun _ _ _ h => h) (Or.inl ⟨by rfl, fun wz hS => ?_⟩) x1 ?_
          · obtain ⟨y1, y2⟩ := hS
            go_simp
            all_goals first | omega | simp [Addr.add]
          try simp only [Act.put, List.setIfInBounds_toArray, List.set_cons_zero, List.set_cons_succ]
          refine wpAnyZ_take (i := 17) (oi := { dst := some 80, op := _, type := _, pos := _, after := _, guard := _ }) (v := .slice PA j PC) rfl (by decide) (by kernel_rfl) (by kernel_rfl) (by kernel_rfl) (by kernel_rfl) (fun _ _ _ h => h) (Or.inl ⟨by rfl, fun wz hS => ?_⟩) x1 ?_
          · obtain ⟨y1, y2⟩ := hS
            go_simp
            all_goals first | omega | simp [Addr.add]
          try simp only [Act.put, List.setIfInBounds_toArray, List.set_cons_zero, List.set_cons_succ]
          refine wpAnyZ_take (i := 18) (oi := { dst := some 81, op := _, type := _, pos := _, after := _, guard := _ }) (v := .int .i64 ((j : Nat) : Int)) rfl (by decide) (by kernel_rfl) (by kernel_rfl) (by kernel_rfl) (by kernel_rfl) (fun _ _ _ h => h) (Or.inl ⟨by rfl, fun wz hS => ?_⟩) x1 ?_
          · obtain ⟨y1, y2⟩ := hS
            go_simp
            all_goals first | omega | simp [Addr.add]
          try simp only [Act.put, List.setIfInBounds_toArray, List.set_cons_zero, List.set_cons_succ]
          refine wpAnyZ_take (i := 19) (oi := { dst := some 82, op := _, type := _, pos := _, after := _, guard := _ }) (v := .slice A2 m2 k2) rfl (by decide) (by kernel_rfl) (by kernel_rfl) (by kernel_rfl) (by kernel_rfl) (fun _ _ _ h => h) (Or.inl ⟨by rfl, fun wz hS => ?_⟩) x1 ?_
          · obtain ⟨y1, y2⟩ := hS
            obtain ⟨e1, e2, e3⟩ := HA2.out
            subst e1 e2 e3
            go_simp
            all_goals first | omega | simp [Addr.add]
          try simp only [Act.put, List.setIfInBounds_toArray, List.set_cons_zero, List.set_cons_succ]
          refine wpAnyZ_two (j := 3) (k := 15) (o := { dst := some 66, op := _, type := _, pos := _, after := _, guard := none }) (o' := { dst := some 78, op := _, type := _, pos := _, after := _, guard := none }) rfl rfl (by kernel_rfl) (by decide) (by decide) ?_ ?_
          · intro K1 hK1
            obtain ⟨v6, w6, hr6, hb6, hba, hE⟩ := HIA.out
            refine step_append_runQ (by rfl) (.const (.slice none 0 0)) (.tmp 65) _ _ (by rfl) _ _ (by rfl) (by rfl) hr6 ?_
            refine hK1 _ _ (HSX.out _ hb6) ?_
            clear hK1 K1 hr6
            try simp only [Act.put, List.setIfInBounds_toArray, List.set_cons_zero, List.set_cons_succ]
            refine wpAnyZ_one (j := 15) (o := { dst := some 78, op := _, type := _, pos := _, after := _, guard := none }) rfl (by kernel_rfl) (by decide) ?_
            intro K1 hK1
            rw [if_pos (by rfl)]
            go_simp
            refine hK1 _ _ (HSX.out _ hba) ?_
            clear hK1 K1
            generalize w6.alloc (.cells #[.int .i64 xf, .int .i64 0, .int .i64 0, .int .i64 xa] 37 (0, 0)) = W at hba hE ⊢
            generalize w6.heap.size = gl at hE ⊢
            try simp only [Act.put, List.setIfInBounds_toArray, List.set_cons_zero, List.set_cons_succ]
            obtain ⟨v7, w7, hr7, hb7, v8, w8, hr8, hb8, ho8⟩ := hE
            refine wpAnyZ_one (j := 16) (o := { dst := some 79, op := _, type := _, pos := _, after := _, guard := none }) rfl (by kernel_rfl) (by decide) ?_
            intro K1 hK1
            refine step_append_runQ (by rfl) (.tmp 66) (.tmp 78) _ _ (by rfl) _ _ (by rfl) (by rfl) hr7 ?_
            refine hK1 _ _ (HSX.out _ hb7) ?_
            clear hK1 K1 hr7
            try simp only [Act.put, List.setIfInBounds_toArray, List.set_cons_zero, List.set_cons_succ]
            refine wpAnyZ_one (j := 20) (o := { dst := some 83, op := _, type := _, pos := _, after := _, guard := none }) rfl (by kernel_rfl) (by decide) ?_
            intro K1 hK1
            refine step_append_runQ (by rfl) (.tmp 79) (.tmp 82) _ _ (by rfl) _ _ (by rfl) (by rfl) hr8 ?_
            have y8 := HSX.out _ hb8
            refine hK1 _ _ y8 ?_
            clear hK1 K1 hr8
            try simp only [Act.put, List.setIfInBounds_toArray, List.set_cons_zero, List.set_cons_succ]
            refine wpAnyZ_last (o := { dst := some 3, op := _, type := _, pos := _, after := _, guard := _ }) rfl (by kernel_rfl) ?_
            intro K1 hK1
            rw [if_pos (by rfl)]
            go_simp
            refine hK1 _ _ ?_
            clear hK1 K1
            refine wpAny_done (by kernel_rfl) ?_ _
            have HE := Lib.hid (HFIN.out v8 w8 ho8 hb8)
            clear ho8 hb8 y8 x1 hb7
            go_wp2
            go_roundw
            case rel => exact ⟨q + 1, by omega, by go_num, HE⟩
            case measure => simp [intOf]; omega
          · intro K1 hK1
            obtain ⟨hbd, v6, w6, hr6, hb6, hE⟩ := HIB.out
            rw [if_pos (by rfl)]
            go_simp
            refine hK1 _ _ (HSX.out _ hbd) ?_
            clear hK1 K1
            try simp only [Act.put, List.setIfInBounds_toArray, List.set_cons_zero, List.set_cons_succ]
            refine wpAnyZ_one (j := 3) (o := { dst := some 66, op := _, type := _, pos := _, after := _, guard := none }) rfl (by kernel_rfl) (by decide) ?_
            intro K1 hK1
            refine step_append_runQ (by rfl) (.const (.slice none 0 0)) (.tmp 65) _ _ (by rfl) _ _ (by rfl) (by rfl) hr6 ?_
            refine hK1 _ _ (HSX.out _ hb6) ?_
            clear hK1 K1 hr6 hbd
            generalize w6 = W at hE ⊢
            generalize wd.heap.size = gl at hE ⊢
            try simp only [Act.put, List.setIfInBounds_toArray, List.set_cons_zero, List.set_cons_succ]
            obtain ⟨v7, w7, hr7, hb7, v8, w8, hr8, hb8, ho8⟩ := hE
            refine wpAnyZ_one (j := 16) (o := { dst := some 79, op := _, type := _, pos := _, after := _, guard := none }) rfl (by kernel_rfl) (by decide) ?_
            intro K1 hK1
            refine step_append_runQ (by rfl) (.tmp 66) (.tmp 78) _ _ (by rfl) _ _ (by rfl) (by rfl) hr7 ?_
            refine hK1 _ _ (HSX.out _ hb7) ?_
            clear hK1 K1 hr7
            try simp only [Act.put, List.setIfInBounds_toArray, List.set_cons_zero, List.set_cons_succ]
            refine wpAnyZ_one (j := 20) (o := { dst := some 83, op := _, type := _, pos := _, after := _, guard := none }) rfl (by kernel_rfl) (by decide) ?_
            intro K1 hK1
            refine step_append_runQ (by rfl) (.tmp 79) (.tmp 82) _ _ (by rfl) _ _ (by rfl) (by rfl) hr8 ?_
            have y8 := HSX.out _ hb8
            refine hK1 _ _ y8 ?_
            clear hK1 K1 hr8
            try simp only [Act.put, List.setIfInBounds_toArray, List.set_cons_zero, List.set_cons_succ]
            refine wpAnyZ_last (o := { dst := some 3, op := _, type := _, pos := _, after := _, guard := _ }) rfl (by kernel_rfl) ?_
            intro K1 hK1
            rw [if_pos (by rfl)]
            go_simp
            refine hK1 _ _ ?_
            clear hK1 K1
            refine wpAny_done (by kernel_rfl) ?_ _
            have HE := Lib.hid (HFIN.out v8 w8 ho8 hb8)
            clear ho8 hb8 y8 x1 hb7
            go_wp2
            go_roundw
            case rel => exact ⟨q + 1, by omega, by go_num, HE⟩
            case measure => simp [intOf]; omega
    · obtain rfl : q = n := by omega
      have HE := Lib.hid (show LOwn wr w.heap.size _ ((fundsOf l).map fundLn) ∧ Below w.heap.size w wr from ⟨by have h1 := HI.out.1; rwa [List.take_of_length_le (by rw [HR.out.1.len]; exact Nat.le_refl _)] at h1, HI.out.2⟩)
      obtain ⟨PA, PC, rfl, _⟩ := HE.out.1.shape
      clear HI
      go_wp2
      go_ret
      exact ⟨_, rfl, HE.out⟩
end
end Go.Proofs.YtccibahlcpkiaaaGreat
