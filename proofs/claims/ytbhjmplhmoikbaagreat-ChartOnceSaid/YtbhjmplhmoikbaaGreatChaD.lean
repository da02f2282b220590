/-
  Contracts of chart.made, Object, Objects and NewObject over a view in memory in which no number stands behind the tag of objects but one that may be made. Conditions: which number is an int, what a scan asks.
-/
import Derived.Test.YtbhjmplhmoikbaaGreatSortI
import Derived.Test.YtbhjmplhmoikbaaGreatChaC
import Derived.Sort.OwnSortedInts
namespace Go.Proofs.YtbhjmplhmoikbaaGreat
open Go.RowKit Go.Maps
set_option maxRecDepth 100000
set_option linter.unusedVariables false

/-- The objects of a view, and that all of them may be made. -/
def objsL (S : VS) : List Int := numsK ((S.scan (tx [79])).map kvOf)
def ownObj (n : Int) : Bool := objB n && !fixedB n
set_option maxHeartbeats 400000 in
theorem made1_any (n : Int) (w : World) : Calls Tryz.prog 93 #[.int .i64 n] w fun e w' => e = .returned (.bool (!ownObj n)) ∧ w = w' := by
  unfold ownObj
  have HO := Lib.hid (obj_any n w)
  have HF := Lib.hid (fixed_any n w)
  generalize objB n = a at HO ⊢
  generalize fixedB n = b at HF ⊢
  cases a <;> cases b <;> (
    go_enter Tryz.func93, Tryz.ntmps93
    go_wp2_with fail
    refine HO.out.mono ?_
    rintro e w1 ⟨rfl, rfl⟩
    go_wp2_with fail
    first
      | (go_ret; exact ⟨rfl, rfl⟩)
      | (refine HF.out.mono ?_; rintro e w1 ⟨rfl, rfl⟩; go_wp2_with fail; go_ret; exact ⟨rfl, rfl⟩))
set_option maxHeartbeats 1600000 in
theorem idxO_any {w : World} {B n : Nat} {A : Option Addr} {l : List Int} (c : Nat) (hr : RI w B A n l) (hm : n ≤ maxLen) (hall : ∀ x ∈ l, ownObj x = true) :
    Calls Tryz.prog 106 #[.slice A n c, .func (.func 93) #[] #[]] w fun e w' => e = .returned (.int .i64 (-1)) ∧ w = w' := by
  unfold maxLen at hm
  have HL := Lib.hid hr.len
  have HA := Lib.hid hall
  clear hall
  go_enter Tryz.func106, Tryz.ntmps106
  go_wp2
  go_loop [8] (fun i => ∃ k : Nat, k ≤ n ∧ i = .int .i64 k) (fun i => n - (intOf i).toNat)
  case atStart => exact ⟨0, Nat.zero_le _, rfl⟩
  case round =>
    obtain ⟨k, hk, rfl⟩ := hrel
    by_cases hlt : k < n
    · obtain ⟨b, off, rfl, hb, hcell⟩ := hr.2.2 (by omega)
      have hck := hcell k hlt
      have hx := HA.out (l[k]?.getD 0) (by rw [List.getElem?_eq_getElem (show k < l.length by rw [HL.out]; exact hlt)]; exact List.getElem_mem _)
      clear hcell
      generalize l[k]?.getD 0 = u at hck hx
      have HN := Lib.hid (made1_any u)
      rw [hx] at HN
      clear hx
      go_wp2_with fail
      refine (HN.out _).mono ?_
      rintro e w1 ⟨rfl, rfl⟩
      go_wp2_with fail
      go_round
      case rel => exact ⟨k + 1, by omega, by go_num⟩
      case measure => simp [intOf]; omega
    · obtain rfl : k = n := by omega
      go_wp2_with fail
      go_ret
      exact ⟨rfl, rfl⟩
set_option maxHeartbeats 400000 in
theorem delO_any {w : World} {B n : Nat} {A : Option Addr} {l : List Int} (c : Nat) (hr : RI w B A n l) (hm : n ≤ maxLen) (hall : ∀ x ∈ l, ownObj x = true) :
    Calls Tryz.prog 92 #[.slice A n c, .func (.func 93) #[] #[]] w fun e w' => e = .returned (.slice A n c) ∧ w = w' := by
  have HI := Lib.hid (idxO_any c hr hm hall)
  clear hr hall
  go_enter Tryz.func92, Tryz.ntmps92
  go_wp2_with fail
  refine HI.out.mono ?_
  rintro e w1 ⟨rfl, rfl⟩
  go_wp2_with fail
  go_ret
  exact ⟨rfl, rfl⟩
theorem sortO_any {w : World} {base : Nat} {u : Value} {l : List Int} (h : w.ownsRow base 3 1 u l.length (l.map (Value.int .i64))) (hl : l.length < 4611686018427387904) (hB : base ≤ w.heap.size) :
    Calls Tryz.prog 62 #[u] w fun e w' => e = .returned (.tuple #[]) ∧ w'.ownsRow base 3 1 u l.length ((l.mergeSort fun x y => decide (x ≤ y)).map (Value.int .i64)) ∧ Below base w w' := by
  rcases h.2 with ⟨rfl, h0⟩ | ⟨g, cap, cur, rfl, hbase, hg, hn, hcap, hsz, htake⟩
  · obtain rfl : l = [] := List.eq_nil_of_length_eq_zero h0
    refine (AnyM.slices_Sort_int_none Tryz.sortI none 0 w).mono ?_
    rintro e w' ⟨rfl, rfl⟩
    exact ⟨rfl, by simpa using h, Below.refl _ _⟩
  · rw [Nat.mul_one] at htake
    refine (AnyM.slices_Sort_int Tryz.sortI g 0 cap l w (holds_of_blockI hg htake) (Array.getElem?_eq_some_iff.1 hg).1 hl).mono ?_
    rintro e w' ⟨rfl, n, os, rfl⟩
    refine ⟨rfl, ownsRow_sortedI (by simp) hbase hg hn hcap hsz, (Below.refl base w).grown (grownBy_sortedI _) hB (fun k hk => by cases hk; exact hbase)⟩
section
variable {w w' : World} {X : Nat → Prop} {v m c : Nat} {S : VS}
set_option maxHeartbeats 400000 in
theorem cMade_any (h : ViewAt w X v m c S) (hS : ScanOk S) (hall : ∀ x ∈ objsL S, ownObj x = true) :
    Calls Tryz.prog 59 #[.pointer (some ⟨v, 0, none⟩)] w fun e w' => ∃ u, e = .returned u ∧ w'.ownsRow w.heap.size 3 1 u (objsL S).length ((objsL S).map (Value.int .i64)) ∧ Below w.heap.size w w' := by
  have HN := Lib.hid (cNumbers_any h hS (t := 79) (by omega))
  have HI := Lib.hid (numsK_ints (kv_bytes (L := S.scan (tx [79]))))
  have HL := Lib.hid (Nat.le_trans (numsK_len _) (scan_fits S hS (tx [79])))
  unfold objsL at hall ⊢
  generalize numsK ((S.scan (tx [79])).map kvOf) = l at HN HI HL hall ⊢
  have HA := Lib.hid hall
  clear h hS hall
  go_enter Tryz.func59, Tryz.ntmps59
  go_wp2_with fail
  refine HN.out.mono ?_
  rintro e w1 ⟨u, rfl, ho, hb⟩
  obtain ⟨A, k, rfl, hk, hr⟩ := RI.own_ ho HI.out
  have HD := Lib.hid (delO_any k hr (by have := HL.out; unfold maxLen; omega) HA.out)
  have HE := Lib.hid (And.intro ho hb)
  clear ho hb hk hr HN
  go_wp2_with fail
  refine HD.out.mono ?_
  rintro e w2 ⟨rfl, rfl⟩
  go_wp2_with fail
  go_ret
  exact ⟨_, rfl, HE.out⟩
set_option maxHeartbeats 1600000 in
theorem cObject_any (h : ViewAt w X v m c S) (n : Int) (hn : -9223372036854775808 ≤ n ∧ n ≤ 9223372036854775807) :
    Calls Tryz.prog 34 #[.pointer (some ⟨v, 0, none⟩), .int .i64 n] w fun e w' => e = .returned (.bool (fixedB n || (S.now (tx (keyL 79 [n]))).isSome)) ∧ Below w.heap.size w w' := by
  have HF := Lib.hid (fixed_any n w)
  have hb1 : Below w.heap.size w (w.alloc (.cells #[.int .i64 n] 3)) := (Below.refl _ _).alloc (Nat.le_refl _) _
  have HK := Lib.hid (kOne_any 79 n (w.alloc (.cells #[.int .i64 n] 3)) w.heap.size 3 (by omega) (heap_alloc_new w _) hn)
  have HV := Lib.hid (h.below hb1)
  have HB := Lib.hid hb1
  generalize hbs : (S.now (tx (keyL 79 [n]))).isSome = bs
  have HBS := Lib.hid hbs
  clear h hb1 hbs
  generalize fixedB n = fb at HF ⊢
  cases fb with
  | true =>
    go_enter Tryz.func34, Tryz.ntmps34
    go_wp2_with fail
    refine HF.out.mono ?_
    rintro e w1 ⟨rfl, rfl⟩
    go_wp2_with fail
    go_ret
    exact ⟨rfl, Below.refl _ _⟩
  | false =>
    go_enter Tryz.func34, Tryz.ntmps34
    go_wp2_with fail
    refine HF.out.mono ?_
    rintro e w1 ⟨rfl, rfl⟩
    go_wp2_with fail
    refine HK.out.mono ?_
    rintro e w2 ⟨A, k, rfl, hk, hr, hb2⟩
    have HG := Lib.hid (vGet_any (k := k) (HV.out.below hb2) hr (Nat.le_refl _) (by decide))
    have HB2 := Lib.hid (HB.out.trans (hb2.mono HB.out.size))
    rw [HBS.out] at HG
    clear hr hb2 HK HV HB
    go_wp2_with fail
    refine HG.out.mono ?_
    rintro e w3 ⟨u, rfl, hs, hb3⟩
    have HE := Lib.hid (HB2.out.trans (hb3.mono HB2.out.size))
    clear hs hb3 HG HB2
    go_wp2_with fail
    go_ret
    exact ⟨rfl, HE.out⟩
/-- What NewObject answers, and makes. -/
def newObjE (S : VS) (n : Int) : Int := if objB n = true then (if (fixedB n || (S.now (tx (keyL 79 [n]))).isSome) = true then 8 else if 60 ≤ (objsL S).length then 11 else 0) else 1
def newObj (S : VS) (n : Int) : VS := if newObjE S n = 0 then S.put (tx (keyL 79 [n])) [] else S
theorem putE_obj (n : Int) : putE (keyL 79 [n]) [] = 0 := by
  unfold putE
  rw [keyLen1]
  exact if_neg (by simp)
set_option maxHeartbeats 3200000 in
theorem newObj_any (h : ViewAt w X v m c S) (hS : ScanOk S) (hall : ∀ x ∈ objsL S, ownObj x = true) (n : Int) (hn : -9223372036854775808 ≤ n ∧ n ≤ 9223372036854775807) :
    Calls Tryz.prog 32 #[.pointer (some ⟨v, 0, none⟩), .int .i64 n] w fun e w' => e = .returned (.int .i64 (newObjE S n)) ∧ ViewAt w' X v m c (newObj S n) ∧ Touch (fun k => k = c) w w' := by
  have HF := Lib.hid (obj_any n w)
  have HO := Lib.hid (cObject_any h n hn)
  have HSAME := Lib.hid (show ∀ W, Below w.heap.size w W → ViewAt W X v m c S ∧ Touch (fun k => k = c) w W from fun W hb => ⟨h.below hb, Touch.of_below hb⟩)
  cases hfb : objB n with
  | false =>
    have e1 : newObjE S n = 1 := by unfold newObjE; rw [hfb]; rfl
    have e2 : newObj S n = S := by unfold newObj; rw [e1]; rfl
    rw [hfb] at HF
    rw [e1, e2]
    clear h e1 e2 hfb HO
    go_enter Tryz.func32, Tryz.ntmps32
    go_wp2_with fail
    refine HF.out.mono ?_
    rintro e w' ⟨rfl, rfl⟩
    go_wp2_with fail
    go_ret
    exact ⟨rfl, HSAME.out _ (Below.refl _ _)⟩
  | true =>
  rw [hfb] at HF
  cases his : (fixedB n || (S.now (tx (keyL 79 [n]))).isSome) with
  | true =>
    have e1 : newObjE S n = 8 := by unfold newObjE; rw [hfb, his]; rfl
    have e2 : newObj S n = S := by unfold newObj; rw [e1]; rfl
    rw [e1, e2]
    rw [his] at HO
    clear h e1 e2 hfb his
    go_enter Tryz.func32, Tryz.ntmps32
    go_wp2_with fail
    refine HF.out.mono ?_
    rintro e w' ⟨rfl, rfl⟩
    go_wp2_with fail
    refine HO.out.mono ?_
    rintro e w1 ⟨rfl, hb⟩
    have HB := Lib.hid hb
    clear hb
    go_wp2_with fail
    go_ret
    exact ⟨rfl, HSAME.out _ HB.out⟩
  | false =>
  rw [his] at HO
  have HI := Lib.hid (numsK_ints (kv_bytes (L := S.scan (tx [79]))))
  have HFS := Lib.hid (show ∀ W, Below w.heap.size w W → Calls Tryz.prog 59 #[.pointer (some ⟨v, 0, none⟩)] W fun e w' => ∃ A c, e = .returned (.slice A (objsL S).length c) ∧ (objsL S).length ≤ c ∧ Below W.heap.size W w' from fun W hb => (cMade_any (h.below hb) hS hall).mono fun e w' q => by
    obtain ⟨u, rfl, ho, hb'⟩ := q
    obtain ⟨A, k, rfl, hk, _⟩ := RI.own_ ho HI.out
    exact ⟨A, k, rfl, hk, hb'⟩)
  by_cases h60 : 60 ≤ (objsL S).length
  · have e1 : newObjE S n = 11 := by unfold newObjE; rw [hfb, his, if_pos h60]; rfl
    have e2 : newObj S n = S := by unfold newObj; rw [e1]; rfl
    rw [e1, e2]
    clear hall
    generalize objsL S = fs at HFS h60
    obtain ⟨N, hN⟩ : ∃ N, N = fs.length := ⟨_, rfl⟩
    rw [← hN] at HFS h60
    clear h e1 e2 hfb his hN
    go_enter Tryz.func32, Tryz.ntmps32
    go_wp2_with fail
    refine HF.out.mono ?_
    rintro e w' ⟨rfl, rfl⟩
    go_wp2_with fail
    refine HO.out.mono ?_
    rintro e w1 ⟨rfl, hb⟩
    have HB := Lib.hid hb
    clear hb
    go_wp2_with fail
    refine (HFS.out _ HB.out).mono ?_
    rintro e w3 ⟨A, k, rfl, _, hb⟩
    have HE := Lib.hid (HB.out.trans (hb.mono HB.out.size))
    clear hb HB
    go_wp2_with fail
    go_ret
    exact ⟨rfl, HSAME.out _ HE.out⟩
  · have e1 : newObjE S n = 0 := by unfold newObjE; rw [hfb, his, if_neg h60]; rfl
    have e2 : newObj S n = S.putR (keyL 79 [n]) [] := by unfold newObj VS.putR; rw [e1, putE_obj n]
    have e3 := putE_obj n
    have HPUT := Lib.hid (show ∀ W A k, Below w.heap.size w W → RB W W.heap.size A 5 (keyL 79 [n]) → Calls Tryz.prog 16 #[.pointer (some ⟨v, 0, none⟩), .slice A 5 k, .slice none 0 0] W fun e w' => e = .returned (.int .i64 0) ∧ ViewAt w' X v m c (S.putR (keyL 79 [n]) []) ∧ Touch (fun k => k = c) W w' from fun W A k hb hr => by
      have := vPut_any (k := k) (k' := 0) (h.below hb) hr (Nat.le_refl _) (by decide) (RB.nil_ (w := W) (B := 0) (A := none)) (Nat.zero_le _) (Nat.zero_le _) (Nat.lt_of_le_of_lt hS.cf (by unfold maxLen; omega))
      rw [e3] at this
      exact this)
    rw [e1, e2]
    clear hall
    have hNlt : ¬ (60 : Int) ≤ ((objsL S).length : Int) := by omega
    generalize objsL S = fs at HFS hNlt
    obtain ⟨N, hN⟩ : ∃ N, N = fs.length := ⟨_, rfl⟩
    rw [← hN] at HFS hNlt
    clear h e1 e2 e3 hfb his hN h60
    go_enter Tryz.func32, Tryz.ntmps32
    go_wp2_with fail
    refine HF.out.mono ?_
    rintro e w' ⟨rfl, rfl⟩
    go_wp2_with fail
    refine HO.out.mono ?_
    rintro e w1 ⟨rfl, hb⟩
    have HB := Lib.hid hb
    clear hb
    go_wp2_with fail
    refine (HFS.out _ HB.out).mono ?_
    rintro e w3 ⟨A, k, rfl, _, hb⟩
    have HB3 := Lib.hid (HB.out.trans (hb.mono HB.out.size))
    clear hb HB
    have hba : Below w3.heap.size w3 (w3.alloc (.cells #[.int .i64 n] 3)) := (Below.refl _ _).alloc (Nat.le_refl _) _
    have HK := Lib.hid (kOne_any 79 n (w3.alloc (.cells #[.int .i64 n] 3)) w3.heap.size 3 (by omega) (heap_alloc_new w3 _) hn)
    have HBA := Lib.hid (HB3.out.trans (hba.mono HB3.out.size))
    clear hba
    go_wp2_with fail
    refine HK.out.mono ?_
    rintro e w4 ⟨A4, k4, rfl, hk4, hr4, hb4⟩
    have hb04 := HBA.out.trans (hb4.mono HBA.out.size)
    have HQ := Lib.hid (HPUT.out w4 A4 k4 hb04 hr4)
    have HB4 := Lib.hid hb04
    clear hr4 hb4 hb04 HK HBA
    go_wp2_with fail
    refine HQ.out.mono ?_
    rintro e w6 ⟨rfl, hv6, ht6⟩
    have HE := Lib.hid (And.intro hv6 ((Touch.of_below HB4.out).trans ht6))
    clear hv6 ht6
    go_wp2_with fail
    go_ret
    exact ⟨rfl, HE.out⟩
set_option maxHeartbeats 1600000 in
theorem cObjects_any (h : ViewAt w X v m c S) (hS : ScanOk S) (hall : ∀ x ∈ objsL S, ownObj x = true) :
    Calls Tryz.prog 35 #[.pointer (some ⟨v, 0, none⟩)] w fun e w' => ∃ u, e = .returned u ∧ w'.ownsRow w.heap.size 3 1 u ((objsL S).length + 4) (((objsL S ++ [1010, 1900, 2900, 3000]).mergeSort fun x y => decide (x ≤ y)).map (Value.int .i64)) ∧ Below w.heap.size w w' := by
  have HM := Lib.hid (cMade_any h hS hall)
  have HL := Lib.hid (Nat.le_trans (numsK_len _) (scan_fits S hS (tx [79])))
  unfold objsL at hall HM ⊢
  generalize numsK ((S.scan (tx [79])).map kvOf) = l at HM HL ⊢
  clear h hS hall
  obtain ⟨i0, hi, hz0, hz1, hz2⟩ := info_parts info_int
  go_enter Tryz.func35, Tryz.ntmps35
  go_wp2_with fail
  refine HM.out.mono ?_
  rintro e w1 ⟨u, rfl, ho, hb⟩
  have HB := Lib.hid hb
  have HO := Lib.hid ho
  clear ho hb HM
  go_wp2_with (refine wpList_append_own _ rfl _ _ 28 rfl w.heap.size 3 i0 (.int .i64 0) 1 8 Tryz.underlying28 hi hz0 hz1 hz2 rfl (by decide) _ _ _ rfl (HO.out.alloc _) ⟨w1.heap.size, 0, none⟩ 4 4 [.int .i64 1010, .int .i64 1900, .int .i64 2900, .int .i64 3000] rfl rfl (World.news_of_block (cs := #[.int .i64 1010, .int .i64 1900, .int .i64 2900, .int .i64 3000]) (heap_alloc_new _ _)) (fun u hu => by simp only [List.mem_cons, List.not_mem_nil, or_false] at hu; rcases hu with rfl | rfl | rfl | rfl <;> rfl) (by have := HL.out; unfold maxLen; omega) (by have := HL.out; omega) (by have := HB.out.size; simp; omega) ?_; intro v5 w5 hown5 hg5 _; have hb5 := (HB.out.alloc HB.out.size _).trans ((Below.refl w.heap.size _).grown hg5 (by have := HB.out.size; simp; omega) (int_own_ge HO.out)); have hown5 := (show w5.ownsRow w.heap.size 3 1 v5 (l ++ [1010, 1900, 2900, 3000]).length ((l ++ [1010, 1900, 2900, 3000]).map (Value.int .i64)) from by rw [List.length_append, List.map_append]; exact hown5); have HS := Lib.hid (sortO_any hown5 (by have := HL.out; rw [List.length_append]; simp; omega) hb5.size); have HB5 := Lib.hid hb5; clear hown5 hb5 hg5)
  refine HS.out.mono ?_
  rintro e w6 ⟨rfl, ho6, hb6⟩
  have HE := Lib.hid (And.intro ho6 (HB5.out.trans hb6))
  clear ho6 hb6 HS
  go_wp2_with fail
  go_ret
  exact ⟨_, rfl, by have := HE.out.1; rwa [List.length_append] at this, HE.out.2⟩
end
end Go.Proofs.YtbhjmplhmoikbaaGreat
