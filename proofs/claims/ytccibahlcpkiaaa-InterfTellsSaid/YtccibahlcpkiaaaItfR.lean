/-
  Contracts of the document's Balance and All. Condition: fewer than 2^30 lines. (Printed by tools/genItfR.py.)
-/
import Derived.Test.YtccibahlcpkiaaaLinS
namespace Go.Proofs.Ytccibahlcpkiaaa
open Go.RowKit Go.Maps
set_option maxRecDepth 100000
set_option linter.unusedVariables false

theorem balL_stepR {L : FL} {j : Nat} {p : Int × Int} (h : L[j]? = some p) : balL (L.take (j + 1)) = balL (L.take j) ++ (balF p).toList := by
  obtain ⟨hj, rfl⟩ := List.getElem?_eq_some_iff.1 h
  unfold balL
  rw [List.take_succ_eq_append_getElem hj, List.filterMap_append]
  congr 1
section
variable {w w' : World} {A A' : Option Addr} {n m k B B' : Nat} {l l' : List Ln}
set_option maxHeartbeats 3200000 in
theorem refBalance_any (hr : RL w B A n l) (hB : B ≤ w.heap.size) (hn : n ≤ 1073741823) :
    Calls Try.prog 9 #[.slice A n k] w fun e w' => ∃ u, e = .returned u ∧ LOwn w' w.heap.size u (balL (fundsOf l)) ∧ Below w.heap.size w w' := by
  have HF := Lib.hid (refFunds_any (k := k) hr hB hn)
  have HL := Lib.hid (And.intro (fundsOf_in l hr.ok) (show (fundsOf l).length ≤ n by rw [← hr.len]; exact fundsOf_len l))
  generalize fundsOf l = L at HF HL ⊢
  clear hr hB
  go_enter Try.func9, Try.ntmps9
  go_wp2_with fail
  refine HF.out.mono ?_
  rintro e w1 ⟨u1, rfl, ho1, hb1⟩
  obtain ⟨A1, c1, rfl, hc1⟩ := ho1.shape
  rw [List.length_map] at ho1 hc1 ⊢
  obtain ⟨_, _, hr1⟩ := ho1.read (fundLn_okQ HL.out.1)
  obtain ⟨N, hN⟩ : ∃ N, N = L.length := ⟨_, rfl⟩
  have HNN := Lib.hid hN
  rw [← hN] at hr1 hc1 ⊢
  have HR1 := Lib.hid hr1
  have HB1 := Lib.hid hb1
  have hNn : N ≤ n := by rw [hN]; exact HL.out.2
  clear ho1 hr1 hb1 hN HF
  go_wp2_with fail
  go_loopw [3, 5] (fun u i wr => ∃ j : Nat, j ≤ N ∧ i = .int .i64 j ∧ Hid (LOwn wr w1.heap.size u (balL (L.take j)) ∧ Below w1.heap.size w1 wr)) (fun _ i _ => N - (intOf i).toNat)
  case atStart => exact ⟨0, Nat.zero_le _, rfl, Lib.hid ⟨by rw [List.take_zero]; exact LOwn.start _ _, Below.refl _ _⟩⟩
  case round =>
    obtain ⟨j, hj, rfl, HI⟩ := hrel
    by_cases hlt : j < N
    · have hlt' : (j : Int) < (N : Int) := by omega
      obtain ⟨hown, hb⟩ := HI.out
      obtain ⟨x, hx⟩ : ∃ x, (L.map fundLn)[j]? = some x := ⟨_, List.getElem?_eq_getElem (by rw [List.length_map, ← HNN.out]; exact hlt)⟩
      obtain ⟨b, off, rfl, hbB, hat⟩ := HR1.out.2.2 (by omega)
      have hbl := Nat.lt_of_lt_of_le hbB hb.size
      obtain ⟨c0, c1', c2, c3⟩ := (hat j x hx).keep hbB (fun b o hbb => hb.cell (p := ⟨b, o, none⟩) hbb)
      obtain ⟨⟨f, s⟩, hp, rfl⟩ := fundLn_atS hx
      simp only [fundLn] at c0 c1' c2 c3
      have hin := HL.out.1 _ (List.mem_of_getElem? hp)
      have hstep := balL_stepR hp
      have hll : (balL (L.take j)).length ≤ j := Nat.le_trans (balL_len _) (by rw [List.length_take]; exact Nat.min_le_left _ _)
      obtain ⟨PA, PK, rfl, _⟩ := hown.shape
      by_cases hz : s = 0
      · subst hz
        have HE := Lib.hid (show LOwn wr w1.heap.size (.slice PA (balL (L.take j)).length PK) (balL (L.take (j + 1))) ∧ Below w1.heap.size w1 wr from ⟨by rw [hstep]; unfold balF; rw [if_pos rfl]; show LOwn wr _ _ (_ ++ []); rw [List.append_nil]; exact hown, hb⟩)
        clear hown hb hx hat hp hin hstep hll HI
        go_wp2
        go_roundw
        case rel => exact ⟨j + 1, by omega, by go_num, HE⟩
        case measure => simp [intOf]; omega
      · obtain ⟨z, hz'⟩ : ∃ z, IntKind.i64.wrap (-s) = z := ⟨_, rfl⟩
        obtain ⟨d, hd⟩ : ∃ d, dueOf s = d := ⟨_, rfl⟩
        have hok : LnOk ⟨f, d, 0, z⟩ := balL_ok (L := [(f, s)]) (fun p hp => by obtain rfl := List.mem_singleton.1 hp; exact hin) _ (by unfold balL balF; simp only [List.filterMap_cons, if_neg hz, hd, hz']; exact List.mem_singleton.2 rfl)
        have hX : Below wr.heap.size wr (wr.drew.alloc (.cells #[.int .i64 f, .int .i64 d, .int .i64 0, .int .i64 z] 27 (0, 0))) := (Below.refl _ _).drew.alloc (Nat.le_refl _) _
        obtain ⟨v', w6, hrun, hown6, hb6, hg6, _⟩ := (hown.below hX).append1 (x := ⟨f, d, 0, z⟩) (heap_alloc_new wr.drew _) hok (by omega) (Nat.le_trans hb.size hX.size) 22
        have hno : ∀ k, (Value.slice PA (balL (L.take j)).length PK).ownBlock = some k → w1.heap.size ≤ k := fun k hk => (hown.at_ k hk).1
        have x1 : wr.drew.cell? ⟨b, off + j * 4, none⟩ = some (.int .i64 f) ∧ wr.drew.cell? ⟨b, off + j * 4 + 3, none⟩ = some (.int .i64 s) := ⟨c0, c3⟩
        have x2 : (wr.drew.alloc (.cells #[.int .i64 f, .int .i64 d, .int .i64 0, .int .i64 z] 27 (0, 0))).cell? ⟨b, off + j * 4, none⟩ = some (.int .i64 f) ∧ (wr.drew.alloc (.cells #[.int .i64 f, .int .i64 d, .int .i64 0, .int .i64 z] 27 (0, 0))).cell? ⟨b, off + j * 4 + 3, none⟩ = some (.int .i64 s) := ⟨(hX.cell (p := ⟨b, off + j * 4, none⟩) hbl).trans c0, (hX.cell (p := ⟨b, off + j * 4 + 3, none⟩) hbl).trans c3⟩
        have hb16 := (hX.mono hb.size).trans hb6
        have x3 : w6.cell? ⟨b, off + j * 4, none⟩ = some (.int .i64 f) ∧ w6.cell? ⟨b, off + j * 4 + 3, none⟩ = some (.int .i64 s) := ⟨(hb16.cell (p := ⟨b, off + j * 4, none⟩) hbB).trans c0, (hb16.cell (p := ⟨b, off + j * 4 + 3, none⟩) hbB).trans c3⟩
        have HE := Lib.hid (show LOwn w6 w1.heap.size v' (balL (L.take (j + 1))) ∧ Below w1.heap.size w1 w6 from ⟨by rw [hstep]; unfold balF; rw [if_neg hz]; simp only [hd, hz']; exact hown6, hb.trans hb16⟩)
        have HRUN := Lib.hid hrun
        have HX3 := Lib.hid x3
        clear hown hb hx hat hp hin hstep hX HI hok hown6 hb6 hg6 hrun hb16 hno
        by_cases hpos : 0 < s
        · have hd2 : d = 2900 := by rw [← hd]; unfold dueOf; rw [if_pos hpos]
          subst hd2
          have hneg : ¬ s < 0 := by omega
          clear hd
          go_wp2_with fail
          refine wp_region_any (by rfl) ?_
          change wpAny _ _ _ _ _ _ _ wr.drew
          refine wpAny_of_Z (S := fun wz => wz.cell? ⟨b, off + j * 4, none⟩ = some (.int .i64 f) ∧ wz.cell? ⟨b, off + j * 4 + 3, none⟩ = some (.int .i64 s)) (z := 15) _ _ _ _ ?_
          refine wpAnyZ_take (i := 0) (oi := { dst := some 20, op := _, type := _, pos := _, after := _, guard := _ }) (v := .slice PA (balL (L.take j)).length PK) rfl (by decide) (by kernel_rfl) (by kernel_rfl) (by kernel_rfl) (by kernel_rfl) (fun _ _ _ h => h) (Or.inl ⟨by rfl, fun wz hS => ?_⟩) x1 ?_
          · obtain ⟨y1, y2⟩ := hS
            go_simp
            all_goals first | omega | simp [Addr.add]
          try simp only [Act.put, List.setIfInBounds_toArray, List.set_cons_zero, List.set_cons_succ]
          refine wpAnyZ_take (i := 1) (oi := { dst := some 21, op := _, type := _, pos := _, after := _, guard := _ }) (v := .slice (some ⟨b, off, none⟩) N c1) rfl (by decide) (by kernel_rfl) (by kernel_rfl) (by kernel_rfl) (by kernel_rfl) (fun _ _ _ h => h) (Or.inl ⟨by rfl, fun wz hS => ?_⟩) x1 ?_
          · obtain ⟨y1, y2⟩ := hS
            go_simp
            all_goals first | omega | simp [Addr.add]
          try simp only [Act.put, List.setIfInBounds_toArray, List.set_cons_zero, List.set_cons_succ]
          refine wpAnyZ_take (i := 2) (oi := { dst := some 22, op := _, type := _, pos := _, after := _, guard := _ }) (v := .int .i64 ((j : Nat) : Int)) rfl (by decide) (by kernel_rfl) (by kernel_rfl) (by kernel_rfl) (by kernel_rfl) (fun _ _ _ h => h) (Or.inl ⟨by rfl, fun wz hS => ?_⟩) x1 ?_
          · obtain ⟨y1, y2⟩ := hS
            go_simp
            all_goals first | omega | simp [Addr.add]
          try simp only [Act.put, List.setIfInBounds_toArray, List.set_cons_zero, List.set_cons_succ]
          refine wpAnyZ_take (i := 3) (oi := { dst := some 23, op := _, type := _, pos := _, after := _, guard := _ }) (v := .pointer (some ⟨b, off + j * 4, none⟩)) rfl (by decide) (by kernel_rfl) (by kernel_rfl) (by kernel_rfl) (by kernel_rfl) (fun _ _ _ h => h) (Or.inl ⟨by rfl, fun wz hS => ?_⟩) x1 ?_
          · obtain ⟨y1, y2⟩ := hS
            go_simp
            all_goals first | omega | simp [Addr.add]
          try simp only [Act.put, List.setIfInBounds_toArray, List.set_cons_zero, List.set_cons_succ]
          refine wpAnyZ_take (i := 4) (oi := { dst := some 24, op := _, type := _, pos := _, after := _, guard := _ }) (v := .pointer (some ⟨b, off + j * 4, none⟩)) rfl (by decide) (by kernel_rfl) (by kernel_rfl) (by kernel_rfl) (by kernel_rfl) (fun _ _ _ h => h) (Or.inl ⟨by rfl, fun wz hS => ?_⟩) x1 ?_
          · obtain ⟨y1, y2⟩ := hS
            go_simp
            all_goals first | omega | simp [Addr.add]
          try simp only [Act.put, List.setIfInBounds_toArray, List.set_cons_zero, List.set_cons_succ]
          refine wpAnyZ_take (i := 5) (oi := { dst := some 25, op := _, type := _, pos := _, after := _, guard := _ }) (v := .int .i64 f) rfl (by decide) (by kernel_rfl) (by kernel_rfl) (by kernel_rfl) (by kernel_rfl) (fun _ _ _ h => h) (Or.inl ⟨by rfl, fun wz hS => ?_⟩) x1 ?_
          · obtain ⟨y1, y2⟩ := hS
            go_simp
            all_goals first | omega | simp [Addr.add]
          try simp only [Act.put, List.setIfInBounds_toArray, List.set_cons_zero, List.set_cons_succ]
          refine wpAnyZ_take (i := 6) (oi := { dst := some 26, op := _, type := _, pos := _, after := _, guard := _ }) (v := .slice (some ⟨b, off, none⟩) N c1) rfl (by decide) (by kernel_rfl) (by kernel_rfl) (by kernel_rfl) (by kernel_rfl) (fun _ _ _ h => h) (Or.inl ⟨by rfl, fun wz hS => ?_⟩) x1 ?_
          · obtain ⟨y1, y2⟩ := hS
            go_simp
            all_goals first | omega | simp [Addr.add]
          try simp only [Act.put, List.setIfInBounds_toArray, List.set_cons_zero, List.set_cons_succ]
          refine wpAnyZ_take (i := 7) (oi := { dst := some 27, op := _, type := _, pos := _, after := _, guard := _ }) (v := .int .i64 ((j : Nat) : Int)) rfl (by decide) (by kernel_rfl) (by kernel_rfl) (by kernel_rfl) (by kernel_rfl) (fun _ _ _ h => h) (Or.inl ⟨by rfl, fun wz hS => ?_⟩) x1 ?_
          · obtain ⟨y1, y2⟩ := hS
            go_simp
            all_goals first | omega | simp [Addr.add]
          try simp only [Act.put, List.setIfInBounds_toArray, List.set_cons_zero, List.set_cons_succ]
          refine wpAnyZ_take (i := 8) (oi := { dst := some 28, op := _, type := _, pos := _, after := _, guard := _ }) (v := .pointer (some ⟨b, off + j * 4, none⟩)) rfl (by decide) (by kernel_rfl) (by kernel_rfl) (by kernel_rfl) (by kernel_rfl) (fun _ _ _ h => h) (Or.inl ⟨by rfl, fun wz hS => ?_⟩) x1 ?_
          · obtain ⟨y1, y2⟩ := hS
            go_simp
            all_goals first | omega | simp [Addr.add]
          try simp only [Act.put, List.setIfInBounds_toArray, List.set_cons_zero, List.set_cons_succ]
          refine wpAnyZ_take (i := 9) (oi := { dst := some 29, op := _, type := _, pos := _, after := _, guard := _ }) (v := .pointer (some ⟨b, off + j * 4 + 3, none⟩)) rfl (by decide) (by kernel_rfl) (by kernel_rfl) (by kernel_rfl) (by kernel_rfl) (fun _ _ _ h => h) (Or.inl ⟨by rfl, fun wz hS => ?_⟩) x1 ?_
          · obtain ⟨y1, y2⟩ := hS
            go_simp
            all_goals first | omega | simp [Addr.add]
          try simp only [Act.put, List.setIfInBounds_toArray, List.set_cons_zero, List.set_cons_succ]
          refine wpAnyZ_take (i := 10) (oi := { dst := some 30, op := _, type := _, pos := _, after := _, guard := _ }) (v := .int .i64 s) rfl (by decide) (by kernel_rfl) (by kernel_rfl) (by kernel_rfl) (by kernel_rfl) (fun _ _ _ h => h) (Or.inl ⟨by rfl, fun wz hS => ?_⟩) x1 ?_
          · obtain ⟨y1, y2⟩ := hS
            go_simp
            all_goals first | omega | simp [Addr.add]
          try simp only [Act.put, List.setIfInBounds_toArray, List.set_cons_zero, List.set_cons_succ]
          refine wpAnyZ_take (i := 11) (oi := { dst := some 31, op := _, type := _, pos := _, after := _, guard := _ }) (v := .int .i64 z) rfl (by decide) (by kernel_rfl) (by kernel_rfl) (by kernel_rfl) (by kernel_rfl) (fun _ _ _ h => h) (Or.inl ⟨by rfl, fun wz hS => ?_⟩) x1 ?_
          · obtain ⟨y1, y2⟩ := hS
            go_simp
            all_goals first | omega | simp [Addr.add]
          try simp only [Act.put, List.setIfInBounds_toArray, List.set_cons_zero, List.set_cons_succ]
          refine wpAnyZ_take (i := 12) (oi := { dst := some 32, op := _, type := _, pos := _, after := _, guard := _ }) (v := .agg #[.int .i64 f, .int .i64 2900, .int .i64 0, .int .i64 z]) rfl (by decide) (by kernel_rfl) (by kernel_rfl) (by kernel_rfl) (by kernel_rfl) (fun _ _ _ h => h) (Or.inl ⟨by rfl, fun wz hS => ?_⟩) x1 ?_
          · obtain ⟨y1, y2⟩ := hS
            go_simp
            all_goals first | omega | simp [Addr.add]
          try simp only [Act.put, List.setIfInBounds_toArray, List.set_cons_zero, List.set_cons_succ]
          refine wpAnyZ_one (j := 13) (o := { dst := some 33, op := _, type := _, pos := _, after := _, guard := _ }) rfl (by kernel_rfl) (by decide) ?_
          intro K1 hK1
          rw [if_pos (by rfl)]
          go_simp
          refine hK1 _ _ x2 ?_
          clear hK1 K1
          try simp only [Act.put, List.setIfInBounds_toArray, List.set_cons_zero, List.set_cons_succ]
          refine wpAnyZ_one (j := 14) (o := { dst := some 34, op := _, type := _, pos := _, after := _, guard := none }) rfl (by kernel_rfl) (by decide) ?_
          intro K1 hK1
          refine step_append_runQ (by rfl) (.tmp 20) (.tmp 33) _ _ (by rfl) _ _ (by rfl) (by rfl) HRUN.out ?_
          refine hK1 _ _ x3 ?_
          clear hK1 K1
          try simp only [Act.put, List.setIfInBounds_toArray, List.set_cons_zero, List.set_cons_succ]
          refine wpAnyZ_last (o := { dst := some 3, op := _, type := _, pos := _, after := _, guard := _ }) rfl (by kernel_rfl) ?_
          intro K1 hK1
          rw [if_pos (by rfl)]
          go_simp
          refine hK1 _ _ ?_
          clear hK1 K1
          refine wpAny_done (by kernel_rfl) ?_ _
          clear x1 x2 x3
          obtain ⟨x4, x5⟩ := (show w6.cell? ⟨b, off + j * 4, none⟩ = some (.int .i64 f) ∧ w6.cell? ⟨b, off + j * 4 + 3, none⟩ = some (.int .i64 s) from HX3.out)
          go_wp2
          go_roundw
          case rel => exact ⟨j + 1, by omega, by go_num, HE⟩
          case measure => simp [intOf]; omega
        · have hd2 : d = 1900 := by rw [← hd]; unfold dueOf; rw [if_neg hpos]
          subst hd2
          have hneg : s < 0 := by omega
          clear hd
          go_wp2_with fail
          refine wp_region_any (by rfl) ?_
          change wpAny _ _ _ _ _ _ _ wr.drew
          refine wpAny_of_Z (S := fun wz => wz.cell? ⟨b, off + j * 4, none⟩ = some (.int .i64 f) ∧ wz.cell? ⟨b, off + j * 4 + 3, none⟩ = some (.int .i64 s)) (z := 15) _ _ _ _ ?_
          refine wpAnyZ_take (i := 0) (oi := { dst := some 41, op := _, type := _, pos := _, after := _, guard := _ }) (v := .slice PA (balL (L.take j)).length PK) rfl (by decide) (by kernel_rfl) (by kernel_rfl) (by kernel_rfl) (by kernel_rfl) (fun _ _ _ h => h) (Or.inl ⟨by rfl, fun wz hS => ?_⟩) x1 ?_
          · obtain ⟨y1, y2⟩ := hS
            go_simp
            all_goals first | omega | simp [Addr.add]
          try simp only [Act.put, List.setIfInBounds_toArray, List.set_cons_zero, List.set_cons_succ]
          refine wpAnyZ_take (i := 1) (oi := { dst := some 42, op := _, type := _, pos := _, after := _, guard := _ }) (v := .slice (some ⟨b, off, none⟩) N c1) rfl (by decide) (by kernel_rfl) (by kernel_rfl) (by kernel_rfl) (by kernel_rfl) (fun _ _ _ h => h) (Or.inl ⟨by rfl, fun wz hS => ?_⟩) x1 ?_
          · obtain ⟨y1, y2⟩ := hS
            go_simp
            all_goals first | omega | simp [Addr.add]
          try simp only [Act.put, List.setIfInBounds_toArray, List.set_cons_zero, List.set_cons_succ]
          refine wpAnyZ_take (i := 2) (oi := { dst := some 43, op := _, type := _, pos := _, after := _, guard := _ }) (v := .int .i64 ((j : Nat) : Int)) rfl (by decide) (by kernel_rfl) (by kernel_rfl) (by kernel_rfl) (by kernel_rfl) (fun _ _ _ h => h) (Or.inl ⟨by rfl, fun wz hS => ?_⟩) x1 ?_
          · obtain ⟨y1, y2⟩ := hS
            go_simp
            all_goals first | omega | simp [Addr.add]
          try simp only [Act.put, List.setIfInBounds_toArray, List.set_cons_zero, List.set_cons_succ]
          refine wpAnyZ_take (i := 3) (oi := { dst := some 44, op := _, type := _, pos := _, after := _, guard := _ }) (v := .pointer (some ⟨b, off + j * 4, none⟩)) rfl (by decide) (by kernel_rfl) (by kernel_rfl) (by kernel_rfl) (by kernel_rfl) (fun _ _ _ h => h) (Or.inl ⟨by rfl, fun wz hS => ?_⟩) x1 ?_
          · obtain ⟨y1, y2⟩ := hS
            go_simp
            all_goals first | omega | simp [Addr.add]
          try simp only [Act.put, List.setIfInBounds_toArray, List.set_cons_zero, List.set_cons_succ]
          refine wpAnyZ_take (i := 4) (oi := { dst := some 45, op := _, type := _, pos := _, after := _, guard := _ }) (v := .pointer (some ⟨b, off + j * 4, none⟩)) rfl (by decide) (by kernel_rfl) (by kernel_rfl) (by kernel_rfl) (by kernel_rfl) (fun _ _ _ h => h) (Or.inl ⟨by rfl, fun wz hS => ?_⟩) x1 ?_
          · obtain ⟨y1, y2⟩ := hS
            go_simp
            all_goals first | omega | simp [Addr.add]
          try simp only [Act.put, List.setIfInBounds_toArray, List.set_cons_zero, List.set_cons_succ]
          refine wpAnyZ_take (i := 5) (oi := { dst := some 46, op := _, type := _, pos := _, after := _, guard := _ }) (v := .int .i64 f) rfl (by decide) (by kernel_rfl) (by kernel_rfl) (by kernel_rfl) (by kernel_rfl) (fun _ _ _ h => h) (Or.inl ⟨by rfl, fun wz hS => ?_⟩) x1 ?_
          · obtain ⟨y1, y2⟩ := hS
            go_simp
            all_goals first | omega | simp [Addr.add]
          try simp only [Act.put, List.setIfInBounds_toArray, List.set_cons_zero, List.set_cons_succ]
          refine wpAnyZ_take (i := 6) (oi := { dst := some 47, op := _, type := _, pos := _, after := _, guard := _ }) (v := .slice (some ⟨b, off, none⟩) N c1) rfl (by decide) (by kernel_rfl) (by kernel_rfl) (by kernel_rfl) (by kernel_rfl) (fun _ _ _ h => h) (Or.inl ⟨by rfl, fun wz hS => ?_⟩) x1 ?_
          · obtain ⟨y1, y2⟩ := hS
            go_simp
            all_goals first | omega | simp [Addr.add]
          try simp only [Act.put, List.setIfInBounds_toArray, List.set_cons_zero, List.set_cons_succ]
          refine wpAnyZ_take (i := 7) (oi := { dst := some 48, op := _, type := _, pos := _, after := _, guard := _ }) (v := .int .i64 ((j : Nat) : Int)) rfl (by decide) (by kernel_rfl) (by kernel_rfl) (by kernel_rfl) (by kernel_rfl) (fun _ _ _ h => h) (Or.inl ⟨by rfl, fun wz hS => ?_⟩) x1 ?_
          · obtain ⟨y1, y2⟩ := hS
            go_simp
            all_goals first | omega | simp [Addr.add]
          try simp only [Act.put, List.setIfInBounds_toArray, List.set_cons_zero, List.set_cons_succ]
          refine wpAnyZ_take (i := 8) (oi := { dst := some 49, op := _, type := _, pos := _, after := _, guard := _ }) (v := .pointer (some ⟨b, off + j * 4, none⟩)) rfl (by decide) (by kernel_rfl) (by kernel_rfl) (by kernel_rfl) (by kernel_rfl) (fun _ _ _ h => h) (Or.inl ⟨by rfl, fun wz hS => ?_⟩) x1 ?_
          · obtain ⟨y1, y2⟩ := hS
            go_simp
            all_goals first | omega | simp [Addr.add]
          try simp only [Act.put, List.setIfInBounds_toArray, List.set_cons_zero, List.set_cons_succ]
          refine wpAnyZ_take (i := 9) (oi := { dst := some 50, op := _, type := _, pos := _, after := _, guard := _ }) (v := .pointer (some ⟨b, off + j * 4 + 3, none⟩)) rfl (by decide) (by kernel_rfl) (by kernel_rfl) (by kernel_rfl) (by kernel_rfl) (fun _ _ _ h => h) (Or.inl ⟨by rfl, fun wz hS => ?_⟩) x1 ?_
          · obtain ⟨y1, y2⟩ := hS
            go_simp
            all_goals first | omega | simp [Addr.add]
          try simp only [Act.put, List.setIfInBounds_toArray, List.set_cons_zero, List.set_cons_succ]
          refine wpAnyZ_take (i := 10) (oi := { dst := some 51, op := _, type := _, pos := _, after := _, guard := _ }) (v := .int .i64 s) rfl (by decide) (by kernel_rfl) (by kernel_rfl) (by kernel_rfl) (by kernel_rfl) (fun _ _ _ h => h) (Or.inl ⟨by rfl, fun wz hS => ?_⟩) x1 ?_
          · obtain ⟨y1, y2⟩ := hS
            go_simp
            all_goals first | omega | simp [Addr.add]
          try simp only [Act.put, List.setIfInBounds_toArray, List.set_cons_zero, List.set_cons_succ]
          refine wpAnyZ_take (i := 11) (oi := { dst := some 52, op := _, type := _, pos := _, after := _, guard := _ }) (v := .int .i64 z) rfl (by decide) (by kernel_rfl) (by kernel_rfl) (by kernel_rfl) (by kernel_rfl) (fun _ _ _ h => h) (Or.inl ⟨by rfl, fun wz hS => ?_⟩) x1 ?_
          · obtain ⟨y1, y2⟩ := hS
            go_simp
            all_goals first | omega | simp [Addr.add]
          try simp only [Act.put, List.setIfInBounds_toArray, List.set_cons_zero, List.set_cons_succ]
          refine wpAnyZ_take (i := 12) (oi := { dst := some 53, op := _, type := _, pos := _, after := _, guard := _ }) (v := .agg #[.int .i64 f, .int .i64 1900, .int .i64 0, .int .i64 z]) rfl (by decide) (by kernel_rfl) (by kernel_rfl) (by kernel_rfl) (by kernel_rfl) (fun _ _ _ h => h) (Or.inl ⟨by rfl, fun wz hS => ?_⟩) x1 ?_
          · obtain ⟨y1, y2⟩ := hS
            go_simp
            all_goals first | omega | simp [Addr.add]
          try simp only [Act.put, List.setIfInBounds_toArray, List.set_cons_zero, List.set_cons_succ]
          refine wpAnyZ_one (j := 13) (o := { dst := some 54, op := _, type := _, pos := _, after := _, guard := _ }) rfl (by kernel_rfl) (by decide) ?_
          intro K1 hK1
          rw [if_pos (by rfl)]
          go_simp
          refine hK1 _ _ x2 ?_
          clear hK1 K1
          try simp only [Act.put, List.setIfInBounds_toArray, List.set_cons_zero, List.set_cons_succ]
          refine wpAnyZ_one (j := 14) (o := { dst := some 55, op := _, type := _, pos := _, after := _, guard := none }) rfl (by kernel_rfl) (by decide) ?_
          intro K1 hK1
          refine step_append_runQ (by rfl) (.tmp 41) (.tmp 54) _ _ (by rfl) _ _ (by rfl) (by rfl) HRUN.out ?_
          refine hK1 _ _ x3 ?_
          clear hK1 K1
          try simp only [Act.put, List.setIfInBounds_toArray, List.set_cons_zero, List.set_cons_succ]
          refine wpAnyZ_last (o := { dst := some 3, op := _, type := _, pos := _, after := _, guard := _ }) rfl (by kernel_rfl) ?_
          intro K1 hK1
          rw [if_pos (by rfl)]
          go_simp
          refine hK1 _ _ ?_
          clear hK1 K1
          refine wpAny_done (by kernel_rfl) ?_ _
          clear x1 x2 x3
          go_wp2
          go_roundw
          case rel => exact ⟨j + 1, by omega, by go_num, HE⟩
          case measure => simp [intOf]; omega
    · obtain rfl : j = N := by omega
      have HE := Lib.hid (show LOwn wr w.heap.size _ (balL L) ∧ Below w.heap.size w wr from ⟨by have h1 := HI.out.1; rw [List.take_of_length_le (by rw [← HNN.out]; exact Nat.le_refl _)] at h1; exact h1.base_le HB1.out.size, HB1.out.trans (HI.out.2.mono HB1.out.size)⟩)
      obtain ⟨PA, PK, rfl, _⟩ := HE.out.1.shape
      clear HI
      go_wp2
      go_ret
      exact ⟨_, rfl, HE.out⟩
set_option maxHeartbeats 800000 in
theorem refAll_any (hr : RL w B A n l) (hB : B ≤ w.heap.size) (hn : n ≤ 1073741823) :
    Calls Try.prog 11 #[.slice A n k] w fun e w' => ∃ u, e = .returned u ∧ LOwn w' w.heap.size u (l ++ balL (fundsOf l)) ∧ Below w.heap.size w w' := by
  obtain ⟨v1, w1, hrun1, ho1, hb1, _⟩ := (LOwn.start w w.heap.size).appendL (c := k) (hr.more hB) (by simp) (by omega) (Nat.le_refl _) 22
  rw [List.nil_append] at ho1
  have HBAL := Lib.hid (refBalance_any (k := k) (hr.below (hb1.mono hB)) (Nat.le_trans hB hb1.size) hn)
  have HL := Lib.hid (And.intro hr.len (And.intro (balL_ok (fundsOf_in l hr.ok)) (show (balL (fundsOf l)).length ≤ n from Nat.le_trans (balL_len _) (by rw [← hr.len]; exact fundsOf_len l))))
  have HO1 := Lib.hid (And.intro ho1 hb1)
  have HRUN1 := Lib.hid hrun1
  generalize balL (fundsOf l) = M at HBAL HL ⊢
  clear hr hB hrun1 ho1 hb1
  go_enter Try.func11, Try.ntmps11
  go_wp2_with (at_builtin; refine Lib.wpList_append_run _ rfl _ _ _ _ rfl _ _ rfl rfl _ _ HRUN1.out ?_)
  refine HBAL.out.mono ?_
  rintro e w2 ⟨u2, rfl, ho2, hb2⟩
  obtain ⟨A2, c2, rfl, hc2⟩ := ho2.shape
  obtain ⟨_, _, hr2⟩ := ho2.read HL.out.2.1
  obtain ⟨v3, w3, hrun3, ho3, hb3, _⟩ := (HO1.out.1.below hb2).appendL (c := c2) hr2 (by rw [HL.out.1]; omega) (by have := HL.out.2.2; omega) (Nat.le_trans HO1.out.2.size hb2.size) 22
  have HE := Lib.hid (And.intro ho3 (HO1.out.2.trans ((hb2.mono HO1.out.2.size).trans hb3)))
  have HRUN3 := Lib.hid hrun3
  clear ho2 hb2 hr2 hrun3 ho3 hb3 HBAL
  go_wp2_with (at_builtin; refine Lib.wpList_append_run _ rfl _ _ _ _ rfl _ _ rfl rfl _ _ HRUN3.out ?_)
  go_ret
  exact ⟨_, rfl, HE.out⟩
end
end Go.Proofs.Ytccibahlcpkiaaa
