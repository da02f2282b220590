/-
  The texts ChaA, YrC joined. Conditions: those that each part says at its head.
-/
import Derived.Test.YtbhjmplhmoikbaaGreatViewC
import Derived.Test.YtbhjmplhmoikbaaGreatIntApp
import Derived.Test.YtbhjmplhmoikbaaGreatKeyA
import Derived.Test.YtbhjmplhmoikbaaGreatKeyB
import Derived.Test.YtbhjmplhmoikbaaGreatNumsP
import Derived.Test.YtbhjmplhmoikbaaGreatYrB

/-
  Contract of chart.numbers over a view in memory: the numbers behind a tag in its keys, in a row of the call's own; nothing that was there is written. Condition: what a scan of the tag comes to.
-/
namespace Go.Proofs.YtbhjmplhmoikbaaGreat
open Go.RowKit Go.Maps
set_option maxRecDepth 100000
set_option linter.unusedVariables false

/-- What a scan asks of a view. -/
structure ScanOk (S : VS) : Prop where
  wf : S.W.length ≤ 2147483647
  wk : ∀ p ∈ S.W, p.1.length ≤ 140737488355328
  cf : S.C.length ≤ 32767
  ck : ∀ p ∈ S.C, p.1.length ≤ 140737488355328
theorem one_len (L : TL) (p : Txt × Option (List Int)) : (VS.one L p).length ≤ L.length + 1 := by
  unfold VS.one
  split
  · exact setT_len _ _ _
  · exact Nat.le_succ_of_le (delT_len _ _)
theorem fold_len : ∀ (C : List (Txt × Option (List Int))) (L : TL), (C.foldl VS.one L).length ≤ L.length + C.length
  | [], L => Nat.le_refl _
  | p :: C, L => by
    have h1 := fold_len C (VS.one L p)
    have h2 := one_len L p
    rw [List.foldl_cons, List.length_cons]
    omega
theorem scan_len (S : VS) (x : Txt) : (S.scan x).length ≤ S.W.length + S.C.length := Nat.le_trans (List.length_filter_le _ _) (fold_len _ _)
theorem keyTag (t : Int) : keyL t [] = [t] := rfl
theorem numsK_len (ps : List KV) : (numsK ps).length ≤ ps.length := List.length_filterMap_le _ _
theorem numsK_step {ps : List KV} {k : Nat} {x : KV} (h : ps[k]? = some x) : numsK (ps.take (k + 1)) = numsK (ps.take k) ++ (oneOf x.1).toList := by
  obtain ⟨hk, rfl⟩ := List.getElem?_eq_some_iff.1 h
  unfold numsK
  rw [List.take_succ_eq_append_getElem hk, List.filterMap_append]
  congr 1
theorem numsK_ints {ps : List KV} (h : ∀ x ∈ ps, AllBytes x.1) : ∀ x ∈ numsK ps, -9223372036854775808 ≤ x ∧ x ≤ 9223372036854775807 := by
  intro x hx
  obtain ⟨q, hq, e⟩ := List.mem_filterMap.1 hx
  unfold oneOf at e
  split at e
  · cases e
    exact numOf_bound _ ((h q hq).drop 1 |>.take 4)
  · cases e
theorem kv_bytes {L : TL} : ∀ x ∈ L.map kvOf, AllBytes x.1 := fun x hx => by
  obtain ⟨p, _, rfl⟩ := List.mem_map.1 hx
  exact by_bytes p.1
/-- What a scan of one tag answers, from a world on. -/
def ScansAt (w : World) (v : Nat) (t : Int) (ps : List KV) : Prop :=
  ∀ W A k, Below w.heap.size w W → RB W W.heap.size A 1 [t] → Calls Tryz.prog 52 #[.pointer (some ⟨v, 0, none⟩), .slice A 1 k] W fun e w' => ∃ A' n' k', e = .returned (.slice A' n' k') ∧ n' ≤ k' ∧ RPairs w' w'.heap.size A' n' ps ∧ Below W.heap.size W w'
section
variable {w w' : World} {v : Nat}
set_option maxHeartbeats 3200000 in
theorem cNumbers_of {t : Int} {ps : List KV} (hs : ScansAt w v t ps) (ht : 0 ≤ t ∧ t < 256) (hl : ps.length ≤ 4294967296) (hby : ∀ x ∈ ps, AllBytes x.1) :
    Calls Tryz.prog 37 #[.pointer (some ⟨v, 0, none⟩), .int .u8 t] w fun e w' => ∃ u, e = .returned u ∧ w'.ownsRow w.heap.size 3 1 u (numsK ps).length ((numsK ps).map (Value.int .i64)) ∧ Below w.heap.size w w' := by
  have HK := Lib.hid (kKey_any t none 0 0 w.heap.size [] w ht RI.nil_ (Nat.le_refl _) (Nat.le_refl _) (Nat.zero_le _))
  rw [keyTag] at HK
  have HS := Lib.hid hs
  have HL := Lib.hid hl
  have HBY := Lib.hid hby
  clear hs hl hby
  go_enter Tryz.func37, Tryz.ntmps37
  go_wp2_with fail
  refine HK.out.mono ?_
  rintro e w1 ⟨u, rfl, ho⟩
  obtain ⟨A, k, rfl, h1, h2⟩ := ho.read (fun x hx => by obtain rfl := List.mem_singleton.1 hx; exact ht)
  have HC := Lib.hid (HS.out w1 A k ho.2 h2)
  have HB1 := Lib.hid ho.2
  clear ho h1 h2 HK HS
  go_wp2_with fail
  refine HC.out.mono ?_
  rintro e w2 ⟨A2, n, k2, rfl, hnk, hp, hb2⟩
  have HP := Lib.hid hp
  have HB2 := Lib.hid (HB1.out.trans (hb2.mono HB1.out.size))
  have hn : n ≤ 4294967296 := by rw [← hp.len]; exact HL.out
  clear hp hb2 HC HB1 HL
  go_wp2_with fail
  go_loopw [5, 16] (fun u i wr => ∃ k : Nat, k ≤ n ∧ i = .int .i64 k ∧ Hid (wr.ownsRow w2.heap.size 3 1 u (numsK (ps.take k)).length ((numsK (ps.take k)).map (Value.int .i64))) ∧ Hid (Below w2.heap.size w2 wr)) (fun _ i _ => n - (intOf i).toNat)
  case atStart => exact ⟨0, Nat.zero_le _, rfl, Lib.hid (World.ownsRow_nil _ _ _ _), Lib.hid (Below.refl _ _)⟩
  case round =>
    obtain ⟨k, hk, rfl, hown, hbw⟩ := hrel
    by_cases hlt : k < n
    · have hlt' : (k : Int) < (n : Int) := by omega
      obtain ⟨bb, off, rfl, hbb, hat⟩ := HP.out.2 (by omega)
      obtain ⟨y, hy⟩ : ∃ y, ps[k]? = some y := ⟨_, List.getElem?_eq_getElem (by rw [HP.out.len]; exact hlt)⟩
      obtain ⟨ka, kn, kc, va, vn, vc, h0, h1, h2, ⟨h3a, h3b⟩, h4, _⟩ := (hat k y hy).keep hbb (fun b o hbb => hbw.out.cell (p := ⟨b, o, none⟩) hbb)
      have hst := Lib.hid (numsK_step hy)
      have hlen : (numsK (ps.take k)).length ≤ k := Nat.le_trans (numsK_len _) (by rw [List.length_take]; exact Nat.min_le_left _ _)
      obtain ⟨w3, hw3⟩ : ∃ w3, w3 = wr.alloc (.cells #[.slice ka kn kc, .slice va vn vc] 42) := ⟨_, rfl⟩
      have hba : Below wr.heap.size wr w3 := by rw [hw3]; exact (Below.refl _ _).alloc (Nat.le_refl _) _
      have q0 : w3.cell? ⟨wr.heap.size, 0, none⟩ = some (.slice ka kn kc) := by rw [hw3]; exact cell_of_row _ _ 0 _ _ (0, 0) (heap_alloc_new wr _)
      have HG := Lib.hid (kSplit_any ka kn kc w2.heap.size y.1 w3 (h2.below (hba.mono hbw.out.size)) (Nat.le_trans hbw.out.size hba.size) h3a h3b)
      have HA := Lib.hid (hbw.out.trans (hba.mono hbw.out.size))
      have HO := Lib.hid (show w3.ownsRow w2.heap.size 3 1 _ (numsK (ps.take k)).length ((numsK (ps.take k)).map (Value.int .i64)) from by rw [hw3]; exact hown.out.alloc _)
      rw [oneOf_split] at hst
      generalize splitK y.1 = r at HG hst
      obtain ⟨nums, tag, ok⟩ := r
      clear hat hy h2 h4 hown hbw hba
      go_wp2_with fail
      rw [← hw3]
      refine HG.out.mono ?_
      rintro e w4 ⟨A4, n4, c4, rfl, hk4, hk4b, hr4, hb4⟩
      have hlen4 := hr4.len
      have HA4 := Lib.hid (HA.out.trans (hb4.mono HA.out.size))
      have HO4 := Lib.hid (show w4.ownsRow w2.heap.size 3 1 _ (numsK (ps.take k)).length ((numsK (ps.take k)).map (Value.int .i64)) from own_later HO.out hb4)
      by_cases hok : ok = true ∧ n4 = 1
      · obtain ⟨rfl, rfl⟩ := hok
        obtain ⟨z, rfl⟩ : ∃ z, nums = [z] := List.length_eq_one_iff.1 hlen4
        obtain ⟨b4, o4, rfl, hb4l, hc4⟩ := hr4.2.2 (by omega)
        have c0 := hc4 0 (by omega)
        simp only [Nat.add_zero, List.getElem?_cons_zero, Option.getD_some] at c0
        rw [if_pos ⟨rfl, rfl⟩] at hst
        have hst2 := Lib.hid (show numsK (ps.take (k + 1)) = numsK (ps.take k) ++ [z] from hst.out)
        generalize hN : (numsK (ps.take k)).length = N at HO4 hlen
        clear hc4 hr4 hb4 HA HO HG hst hlen4 q0 h3a h3b h0 h1 hw3
        go_wp2_with (refine wpList_append_int rfl _ _ rfl w2.heap.size _ N _ rfl w4.heap.size z _ rfl (HO4.out.alloc _) (heap_alloc_new _ _) (by omega) (by have := HA4.out.size; simp; omega) ?_; intro v5 w5 hown5 hb5; rw [← hst2.out] at hown5; have HO5 := Lib.hid hown5; have HA5 := Lib.hid ((HA4.out.alloc HA4.out.size _).trans hb5); clear hown5 hb5)
        go_roundw
        case rel => exact ⟨k + 1, by omega, by go_num, by rw [show (numsK (ps.take (k + 1))).length = N + 1 by rw [hst2.out, List.length_append, hN]; rfl]; exact HO5, HA5⟩
        case measure => simp [intOf]; omega
      · rw [if_neg (fun q => hok ⟨q.1, by rw [← hlen4]; exact q.2⟩)] at hst
        have hst2 := Lib.hid (show numsK (ps.take (k + 1)) = numsK (ps.take k) from by rw [hst.out]; simp)
        clear hr4 hb4 HA HO HG hst q0 h3a h3b h0 h1 hw3
        cases ok with
        | false =>
          clear hok hlen4
          go_wp2_with fail
          go_roundw
          case rel => exact ⟨k + 1, by omega, by go_num, by rw [hst2.out]; exact HO4, HA4⟩
          case measure => simp [intOf]; omega
        | true =>
          have hn4 : ((n4 : Int) == 1) = false := by simp; exact fun q => hok ⟨rfl, by omega⟩
          clear hok hlen4
          go_wp2_with fail
          go_roundw
          case rel => exact ⟨k + 1, by omega, by go_num, by rw [hst2.out]; exact HO4, HA4⟩
          case measure => simp [intOf]; omega
    · obtain rfl : k = n := by omega
      have HE := Lib.hid (show wr.ownsRow w.heap.size 3 1 _ (numsK ps).length ((numsK ps).map (Value.int .i64)) from by have := own_base_le hown.out HB2.out.size; rwa [List.take_of_length_le (by rw [HP.out.len]; exact Nat.le_refl _)] at this)
      clear hown
      go_wp2
      go_ret
      exact ⟨_, rfl, HE.out, HB2.out.trans (hbw.out.mono HB2.out.size)⟩
end
end Go.Proofs.YtbhjmplhmoikbaaGreat

/-
  Contract of years.All over a view in memory: the years that are there, in a row of the call's own; nothing that was there is written. Condition: what a scan of the tag comes to.
-/
namespace Go.Proofs.YtbhjmplhmoikbaaGreat
open Go.RowKit Go.Maps
set_option maxRecDepth 100000
set_option linter.unusedVariables false

/-- The year that a pair is. -/
def yOf (x : KV) : Option Int := if stV (some x.2) = 0 then none else oneOf x.1
def yearsK (ps : List KV) : List Int := ps.filterMap yOf
theorem yearsK_len (ps : List KV) : (yearsK ps).length ≤ ps.length := List.length_filterMap_le _ _
theorem yearsK_step {ps : List KV} {k : Nat} {x : KV} (h : ps[k]? = some x) : yearsK (ps.take (k + 1)) = yearsK (ps.take k) ++ (yOf x).toList := by
  obtain ⟨hk, rfl⟩ := List.getElem?_eq_some_iff.1 h
  unfold yearsK
  rw [List.take_succ_eq_append_getElem hk, List.filterMap_append]
  congr 1
theorem yearsK_ints {ps : List KV} (h : ∀ x ∈ ps, AllBytes x.1) : ∀ x ∈ yearsK ps, -9223372036854775808 ≤ x ∧ x ≤ 9223372036854775807 := by
  intro x hx
  obtain ⟨q, hq, e⟩ := List.mem_filterMap.1 hx
  unfold yOf at e
  split at e
  · cases e
  · exact numsK_ints h x (List.mem_filterMap.2 ⟨q, hq, e⟩)
section
variable {w w' : World} {v : Nat}
set_option maxHeartbeats 3200000 in
theorem yAll_of {ps : List KV} (hs : ScansAt w v 89 ps) (hl : ps.length ≤ 4294967296) (hby : ∀ x ∈ ps, AllBytes x.1) :
    Calls Tryz.prog 29 #[.pointer (some ⟨v, 0, none⟩)] w fun e w' => ∃ u, e = .returned u ∧ w'.ownsRow w.heap.size 3 1 u (yearsK ps).length ((yearsK ps).map (Value.int .i64)) ∧ Below w.heap.size w w' := by
  have HK := Lib.hid (kKey_any 89 none 0 0 w.heap.size [] w (by omega) RI.nil_ (Nat.le_refl _) (Nat.le_refl _) (Nat.zero_le _))
  rw [keyTag] at HK
  have HS := Lib.hid hs
  have HL := Lib.hid hl
  have HBY := Lib.hid hby
  clear hs hl hby
  go_enter Tryz.func29, Tryz.ntmps29
  go_wp2_with fail
  refine HK.out.mono ?_
  rintro e w1 ⟨u, rfl, ho⟩
  obtain ⟨A, k, rfl, h1, h2⟩ := ho.read (fun x hx => by obtain rfl := List.mem_singleton.1 hx; omega)
  have HC := Lib.hid (HS.out w1 A k ho.2 h2)
  have HB1 := Lib.hid ho.2
  clear ho h1 h2 HK HS
  go_wp2_with fail
  refine HC.out.mono ?_
  rintro e w2 ⟨A2, n, k2, rfl, hnk, hp, hb2⟩
  have HP := Lib.hid hp
  have HB2 := Lib.hid (HB1.out.trans (hb2.mono HB1.out.size))
  have hn : n ≤ 4294967296 := by rw [← hp.len]; exact HL.out
  clear hp hb2 HC HB1 HL
  go_wp2_with fail
  go_loopw [3, 13] (fun u i wr => ∃ k : Nat, k ≤ n ∧ i = .int .i64 k ∧ Hid (wr.ownsRow w2.heap.size 3 1 u (yearsK (ps.take k)).length ((yearsK (ps.take k)).map (Value.int .i64))) ∧ Hid (Below w2.heap.size w2 wr)) (fun _ i _ => n - (intOf i).toNat)
  case atStart => exact ⟨0, Nat.zero_le _, rfl, Lib.hid (World.ownsRow_nil _ _ _ _), Lib.hid (Below.refl _ _)⟩
  case round =>
    obtain ⟨k, hk, rfl, hown, hbw⟩ := hrel
    by_cases hlt : k < n
    · have hlt' : (k : Int) < (n : Int) := by omega
      obtain ⟨bb, off, rfl, hbb, hat⟩ := HP.out.2 (by omega)
      obtain ⟨y, hy⟩ : ∃ y, ps[k]? = some y := ⟨_, List.getElem?_eq_getElem (by rw [HP.out.len]; exact hlt)⟩
      obtain ⟨ka, kn, kc, va, vn, vc, h0, h1, h2, ⟨h3a, h3b⟩, h4, ⟨h5a, h5b⟩⟩ := (hat k y hy).keep hbb (fun b o hbb => hbw.out.cell (p := ⟨b, o, none⟩) hbb)
      have hst := Lib.hid (yearsK_step hy)
      have hlen : (yearsK (ps.take k)).length ≤ k := Nat.le_trans (yearsK_len _) (by rw [List.length_take]; exact Nat.min_le_left _ _)
      obtain ⟨w3, hw3⟩ : ∃ w3, w3 = wr.alloc (.cells #[.slice ka kn kc, .slice va vn vc] 42) := ⟨_, rfl⟩
      have hba : Below wr.heap.size wr w3 := by rw [hw3]; exact (Below.refl _ _).alloc (Nat.le_refl _) _
      have q0 : w3.cell? ⟨wr.heap.size, 0, none⟩ = some (.slice ka kn kc) := by rw [hw3]; exact cell_of_row _ _ 0 _ _ (0, 0) (heap_alloc_new wr _)
      have q1 : ∀ W, Below w3.heap.size w3 W → W.cell? ⟨wr.heap.size, 1, none⟩ = some (.slice va vn vc) := fun W hW => (hW.cell (p := ⟨wr.heap.size, 1, none⟩) (by show wr.heap.size < w3.heap.size; rw [hw3]; simp)).trans (by rw [hw3]; exact cell_of_row _ _ 1 _ _ (0, 0) (heap_alloc_new wr _))
      have HQ1 := Lib.hid q1
      have HVL := Lib.hid (show ∀ W, Below w3.heap.size w3 W → Calls Tryz.prog 54 #[.slice va vn vc] W fun e w' => e = .returned (.int .i64 (stV (some y.2))) ∧ Below W.heap.size W w' from fun W hW => stateOf_any ((h4.below (hba.mono hbw.out.size)).below (hW.mono (Nat.le_trans hbw.out.size hba.size))) (Nat.le_trans hbw.out.size (Nat.le_trans hba.size hW.size)) h5a h5b)
      have HG := Lib.hid (kSplit_any ka kn kc w2.heap.size y.1 w3 (h2.below (hba.mono hbw.out.size)) (Nat.le_trans hbw.out.size hba.size) h3a h3b)
      have HA := Lib.hid (hbw.out.trans (hba.mono hbw.out.size))
      have HO := Lib.hid (show w3.ownsRow w2.heap.size 3 1 _ (yearsK (ps.take k)).length ((yearsK (ps.take k)).map (Value.int .i64)) from by rw [hw3]; exact hown.out.alloc _)
      unfold yOf at hst
      rw [oneOf_split] at hst
      generalize stV (some y.2) = sv at hst HVL
      generalize splitK y.1 = r at HG hst
      obtain ⟨nums, tag, ok⟩ := r
      clear hat hy h2 h4 hown hbw hba q1
      go_wp2_with fail
      rw [← hw3]
      refine HG.out.mono ?_
      rintro e w4 ⟨A4, n4, c4, rfl, hk4, hk4b, hr4, hb4⟩
      have hlen4 := hr4.len
      have HA4 := Lib.hid (HA.out.trans (hb4.mono HA.out.size))
      have HO4 := Lib.hid (show w4.ownsRow w2.heap.size 3 1 _ (yearsK (ps.take k)).length ((yearsK (ps.take k)).map (Value.int .i64)) from own_later HO.out hb4)
      have q14 := HQ1.out w4 hb4
      by_cases hok : ok = true ∧ n4 = 1
      · obtain ⟨rfl, rfl⟩ := hok
        obtain ⟨z, rfl⟩ : ∃ z, nums = [z] := List.length_eq_one_iff.1 hlen4
        obtain ⟨b4, o4, rfl, hb4l, hc4⟩ := hr4.2.2 (by omega)
        have c0 := hc4 0 (by omega)
        simp only [Nat.add_zero, List.getElem?_cons_zero, Option.getD_some] at c0
        have HV4 := Lib.hid (HVL.out w4 hb4)
        have HC0 := Lib.hid (show ∀ W, Below w4.heap.size w4 W → W.cell? ⟨b4, o4, none⟩ = some (.int .i64 z) from fun W hW => (hW.cell (p := ⟨b4, o4, none⟩) hb4l).trans c0)
        by_cases hsv : sv = 0
        · rw [if_pos hsv] at hst
          have hst2 := Lib.hid (show yearsK (ps.take (k + 1)) = yearsK (ps.take k) from by rw [hst.out]; simp)
          subst hsv
          clear hc4 hr4 hb4 HA HO HG hst hlen4 q0 h3a h3b h5a h5b h0 h1 hw3 c0 HVL HQ1
          go_wp2_with fail
          refine HV4.out.mono ?_
          rintro e w6 ⟨rfl, hb6⟩
          have HA6 := Lib.hid (HA4.out.trans (hb6.mono HA4.out.size))
          have HO6 := Lib.hid (own_later HO4.out hb6)
          clear hb6 HV4 q14
          go_wp2_with fail
          go_roundw
          case rel => exact ⟨k + 1, by omega, by go_num, by rw [hst2.out]; exact HO6, HA6⟩
          case measure => simp [intOf]; omega
        · rw [if_neg hsv, if_pos ⟨rfl, rfl⟩] at hst
          have hst2 := Lib.hid (show yearsK (ps.take (k + 1)) = yearsK (ps.take k) ++ [z] from hst.out)
          have hsv2 : (sv != 0) = true := by simp [hsv]
          generalize hN : (yearsK (ps.take k)).length = N at HO4 hlen
          clear hc4 hr4 hb4 HA HO HG hst hlen4 q0 h3a h3b h5a h5b h0 h1 hw3 c0 HVL HQ1 hsv
          go_wp2_with fail
          refine HV4.out.mono ?_
          rintro e w6 ⟨rfl, hb6⟩
          have HA6 := Lib.hid (HA4.out.trans (hb6.mono HA4.out.size))
          have HO6 := Lib.hid (own_later HO4.out hb6)
          have c6 := HC0.out w6 hb6
          clear hb6 HV4 q14 HC0
          go_wp2_with (refine wpList_append_int rfl _ _ rfl w2.heap.size _ N _ rfl w6.heap.size z _ rfl (HO6.out.alloc _) (heap_alloc_new _ _) (by omega) (by have := HA6.out.size; simp; omega) ?_; intro v5 w5 hown5 hb5; rw [← hst2.out] at hown5; have HO5 := Lib.hid hown5; have HA5 := Lib.hid ((HA6.out.alloc HA6.out.size _).trans hb5); clear hown5 hb5)
          go_roundw
          case rel => exact ⟨k + 1, by omega, by go_num, by rw [show (yearsK (ps.take (k + 1))).length = N + 1 by rw [hst2.out, List.length_append, hN]; rfl]; exact HO5, HA5⟩
          case measure => simp [intOf]; omega
      · rw [if_neg (show ¬ (ok = true ∧ nums.length = 1) from fun q => hok ⟨q.1, by rw [← hlen4]; exact q.2⟩)] at hst
        have hst2 := Lib.hid (show yearsK (ps.take (k + 1)) = yearsK (ps.take k) from by rw [hst.out]; split <;> simp)
        clear hr4 hb4 HA HO HG hst q0 h3a h3b h5a h5b h0 h1 hw3 HVL HQ1
        cases ok with
        | false =>
          clear hok hlen4
          go_wp2_with fail
          go_roundw
          case rel => exact ⟨k + 1, by omega, by go_num, by rw [hst2.out]; exact HO4, HA4⟩
          case measure => simp [intOf]; omega
        | true =>
          have hn4 : ((n4 : Int) == 1) = false := by simp; exact fun q => hok ⟨rfl, by omega⟩
          clear hok hlen4
          go_wp2_with fail
          go_roundw
          case rel => exact ⟨k + 1, by omega, by go_num, by rw [hst2.out]; exact HO4, HA4⟩
          case measure => simp [intOf]; omega
    · obtain rfl : k = n := by omega
      have HE := Lib.hid (show wr.ownsRow w.heap.size 3 1 _ (yearsK ps).length ((yearsK ps).map (Value.int .i64)) from by have := own_base_le hown.out HB2.out.size; rwa [List.take_of_length_le (by rw [HP.out.len]; exact Nat.le_refl _)] at this)
      clear hown
      go_wp2
      go_ret
      exact ⟨_, rfl, HE.out, HB2.out.trans (hbw.out.mono HB2.out.size)⟩
end
end Go.Proofs.YtbhjmplhmoikbaaGreat
