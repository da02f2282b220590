/-
  The texts YrC, YrD joined. Conditions: those that each part says at its head.
-/
import Derived.Test.YtlcbmobdokicaaaGreatYrB
import Derived.Test.YtlcbmobdokicaaaGreatManS
import Derived.Test.YtlcbmobdokicaaaGreatSeqS

/-
  Contract of years.All over a view in memory: the years that are there, in a row of the call's own; nothing that was there is written. Condition: what a scan of the tag comes to.
-/
namespace Go.Proofs.YtlcbmobdokicaaaGreat
open Go.RowKit Go.Maps
set_option maxRecDepth 100000
set_option linter.unusedVariables false

/-- The year that a pair is. -/
def yOf (x : KV) : Option Int := if stV (some x.2) = 0 then none else oneOf x.1
def yearsK (ps : List KV) : List Int := ps.filterMap yOf
theorem yearsK_len (ps : List KV) : (yearsK ps).length ≤ ps.length := List.length_filterMap_le _ _
theorem yearsK_step {ps : List KV} {k : Nat} {x : KV} (h : ps[k]? = some x) : yearsK (ps.take (k + 1)) = yearsK (ps.take k) ++ (yOf x).toList := by
  obtain ⟨hk, rfl⟩ := List.getElem?_eq_some_iff.1 h
  unfold yearsK
  rw [List.take_succ_eq_append_getElem hk, List.filterMap_append]
  congr 1
theorem yearsK_ints {ps : List KV} (h : ∀ x ∈ ps, AllBytes x.1) : ∀ x ∈ yearsK ps, -9223372036854775808 ≤ x ∧ x ≤ 9223372036854775807 := by
  intro x hx
  obtain ⟨q, hq, e⟩ := List.mem_filterMap.1 hx
  unfold yOf at e
  split at e
  · cases e
  · exact numsK_ints h x (List.mem_filterMap.2 ⟨q, hq, e⟩)
section
variable {w w' : World} {v : Nat}
end
end Go.Proofs.YtlcbmobdokicaaaGreat

/-
  Contracts of the document's own years over its own view: State, Check, Open, Shut, Right, and what a key of a tag with one number is. Condition: which number is an int; tables of fewer than 2^31 pairs.
-/
namespace Go.Proofs.YtlcbmobdokicaaaGreat
open Go.RowKit Go.Maps
set_option maxRecDepth 100000
set_option linter.unusedVariables false

set_option maxHeartbeats 400000 in
theorem ryRight_any (a : Int) (w : World) : Calls Tryz.prog 67 #[.int .i64 a] w fun e w' => e = .returned (.bool (yearB a)) ∧ w = w' := by
  unfold yearB
  by_cases h : 2000 ≤ a
  · go_enter Tryz.func67, Tryz.ntmps67
    go_wp2
    go_ret
    simp; omega
  · go_enter Tryz.func67, Tryz.ntmps67
    go_wp2
    go_ret
    simp; omega
section
variable {w w' : World} {X : Nat → Prop} {x p q r : Nat} {a b d : TL}
theorem rOne_any (t n : Int) (W : World) (g : Nat) (T : TypeId) (ht : 0 ≤ t ∧ t < 256) (h : W.heap[g]? = some (.cells #[.int .i64 n] T (0, 0))) (hn : -9223372036854775808 ≤ n ∧ n ≤ 9223372036854775807) :
    Calls Tryz.prog 99 #[.int .u8 t, .slice (some ⟨g, 0, none⟩) 1 1] W fun e w' => ∃ A c, e = .returned (.slice A 5 c) ∧ SV w' (fun k => k < W.heap.size) (.slice A 5 c) (keyL t [n]) ∧ Below W.heap.size W w' := by
  have hr : RI W W.heap.size (some ⟨g, 0, none⟩) 1 [n] := by
    refine ⟨rfl, fun y hy => by obtain rfl := List.mem_singleton.1 hy; exact hn, fun _ => ⟨g, 0, rfl, (Array.getElem?_eq_some_iff.1 h).1, fun j hj => ?_⟩⟩
    rw [Nat.zero_add, cell_of_row W g j _ T (0, 0) h]
    obtain rfl : j = 0 := by simpa using hj
    rfl
  refine (rKey_any t _ 1 1 _ [n] W ht hr (Nat.le_refl _) (Nat.le_refl _) (by decide)).mono ?_
  rintro e w' ⟨u, rfl, ho⟩
  have e5 : (keyL t [n]).length = 5 := by unfold keyL; rw [tagL_length]; rfl
  have hs := own_sv ho (tagL_bytes ht _) (by rw [e5]; omega)
  obtain ⟨A, c, rfl, h1, h2⟩ := ho.read (tagL_bytes ht _)
  rw [e5] at hs ⊢
  exact ⟨A, c, rfl, hs, ho.2⟩
set_option maxHeartbeats 1600000 in
theorem ryState_any (h : RefAt w X x p q r a b d) (hN : b.length ≤ 2147483647) (n : Int) (hn : -9223372036854775808 ≤ n ∧ n ≤ 9223372036854775807) :
    Calls Tryz.prog 68 #[.pointer (some ⟨x, 0, none⟩), .int .i64 n] w fun e w' => e = .returned (.int .i64 (stV (lookT b (yKey n)))) ∧ Below w.heap.size w w' := by
  have hb1 : Below w.heap.size w (w.alloc (.cells #[.int .i64 n] 3)) := (Below.refl _ _).alloc (Nat.le_refl _) _
  have HK := Lib.hid (rOne_any 89 n (w.alloc (.cells #[.int .i64 n] 3)) w.heap.size 3 (by omega) (heap_alloc_new w _) hn)
  have HNUM := Lib.hid (show ∀ W A c, Below w.heap.size w W → RB W W.heap.size A 5 (keyL 89 [n]) → Calls Tryz.prog 107 #[.pointer (some ⟨x, 0, none⟩), .slice A 5 c] W fun e w' => ∃ ok, e = .returned (.tuple #[.int .i64 (seqV (lookT b (yKey n))), .bool ok]) ∧ Below W.heap.size W w' from fun W A c hb hr => rNum_any (h.below hb) hN hr (Nat.le_refl _))
  unfold stV
  generalize seqV (lookT b (yKey n)) = k at HNUM ⊢
  have HB := Lib.hid hb1
  clear h hb1
  by_cases h1 : k = 1
  · subst h1
    rw [if_pos (.inl rfl)]
    go_enter Tryz.func68, Tryz.ntmps68
    go_wp2_with fail
    refine HK.out.mono ?_
    rintro e w2 ⟨A, c, rfl, hs, hb2⟩
    obtain ⟨s1, s2, s3⟩ := hs.parts
    have hP := HB.out.trans (hb2.mono HB.out.size)
    have HM := Lib.hid (HNUM.out w2 A c hP s1)
    have HP := Lib.hid hP
    clear s1 s2 s3 hs hb2 hP HK HNUM HB
    go_wp2_with fail
    refine HM.out.mono ?_
    rintro e w3 ⟨ok, rfl, hb3⟩
    have HE := Lib.hid (HP.out.trans (hb3.mono HP.out.size))
    clear hb3 HP HM
    go_wp2_with fail
    go_ret
    exact ⟨rfl, HE.out⟩
  · by_cases h2 : k = 2
    · subst h2
      rw [if_pos (.inr rfl)]
      go_enter Tryz.func68, Tryz.ntmps68
      go_wp2_with fail
      refine HK.out.mono ?_
      rintro e w2 ⟨A, c, rfl, hs, hb2⟩
      obtain ⟨s1, s2, s3⟩ := hs.parts
      have hP := HB.out.trans (hb2.mono HB.out.size)
      have HM := Lib.hid (HNUM.out w2 A c hP s1)
      have HP := Lib.hid hP
      clear s1 s2 s3 hs hb2 hP HK HNUM HB
      go_wp2_with fail
      refine HM.out.mono ?_
      rintro e w3 ⟨ok, rfl, hb3⟩
      have HE := Lib.hid (HP.out.trans (hb3.mono HP.out.size))
      clear hb3 HP HM
      go_wp2_with fail
      go_ret
      exact ⟨rfl, HE.out⟩
    · rw [if_neg (fun z => z.elim h1 h2)]
      have e1 : (k == 1) = false := by simp; omega
      have e2 : (k == 2) = false := by simp; omega
      clear h1 h2
      go_enter Tryz.func68, Tryz.ntmps68
      go_wp2_with fail
      refine HK.out.mono ?_
      rintro e w2 ⟨A, c, rfl, hs, hb2⟩
      obtain ⟨s1, s2, s3⟩ := hs.parts
      have hP := HB.out.trans (hb2.mono HB.out.size)
      have HM := Lib.hid (HNUM.out w2 A c hP s1)
      have HP := Lib.hid hP
      clear s1 s2 s3 hs hb2 hP HK HNUM HB
      go_wp2_with fail
      refine HM.out.mono ?_
      rintro e w3 ⟨ok, rfl, hb3⟩
      have HE := Lib.hid (HP.out.trans (hb3.mono HP.out.size))
      clear hb3 HP HM
      go_wp2_with fail
      go_ret
      exact ⟨rfl, HE.out⟩
set_option maxHeartbeats 800000 in
theorem ryCheck_any (h : RefAt w X x p q r a b d) (hN : b.length ≤ 2147483647) (n : Int) (hn : -9223372036854775808 ≤ n ∧ n ≤ 9223372036854775807) :
    Calls Tryz.prog 77 #[.pointer (some ⟨x, 0, none⟩), .int .i64 n] w fun e w' => e = .returned (.int .i64 (chkE (stV (lookT b (yKey n))))) ∧ Below w.heap.size w w' := by
  have HL := Lib.hid (ryState_any h hN n hn)
  have h3 := stV_three (lookT b (yKey n))
  generalize stV (lookT b (yKey n)) = k at HL h3 ⊢
  clear h
  rcases h3 with rfl | rfl | rfl <;> (
    go_enter Tryz.func77, Tryz.ntmps77
    go_wp2_with fail
    refine HL.out.mono ?_
    rintro e w2 ⟨rfl, hb2⟩
    have HE := Lib.hid hb2
    clear hb2 HL
    go_wp2_with fail
    go_ret
    exact ⟨rfl, HE.out⟩)
set_option maxHeartbeats 3200000 in
theorem rySet_any (h : RefAt w X x p q r a b d) (hN : b.length ≤ 2147483647) (hD : d.length ≤ 2147483647) (n s : Int) (hn : -9223372036854775808 ≤ n ∧ n ≤ 9223372036854775807) (hs : -9223372036854775808 ≤ s ∧ s ≤ 9223372036854775807) :
    Calls Tryz.prog 69 #[.pointer (some ⟨x, 0, none⟩), .int .i64 n, .int .i64 s] w fun e w' => e = .returned (.int .i64 0) ∧ RefAt w' X x p q r a (setT b (yKey n) (packN 8 [s])) (setT d (yKey n) []) ∧ Touch (fun k => k = q ∨ k = r) w w' := by
  have HR := Lib.hid h
  have hb3 : Below w.heap.size w (w.alloc (.cells #[.int .i64 n] 3)) := (Below.refl _ _).alloc (Nat.le_refl _) _
  have HK := Lib.hid (rOne_any 89 n (w.alloc (.cells #[.int .i64 n] 3)) w.heap.size 3 (by omega) (heap_alloc_new w _) hn)
  have HB := Lib.hid hb3
  clear hb3 h
  go_enter Tryz.func69, Tryz.ntmps69
  go_wp2_with fail
  refine HK.out.mono ?_
  rintro e w4 ⟨A, c, rfl, hs4, hb4⟩
  have hb5 : Below w4.heap.size w4 (w4.alloc (.cells #[.int .i64 s] 3)) := (Below.refl _ _).alloc (Nat.le_refl _) _
  have HP := Lib.hid (rPackOne_any s (w4.alloc (.cells #[.int .i64 s] 3)) w4.heap.size 3 (heap_alloc_new w4 _) hs)
  have HS := Lib.hid (And.intro hs4 (And.intro (HB.out.trans (hb4.mono HB.out.size)) hb5))
  clear hs4 hb4 hb5 HK
  go_wp2_with fail
  refine HP.out.mono ?_
  rintro e w6 ⟨A2, c2, rfl, hs2, hb6⟩
  have hb7 := HS.out.2.2.trans (hb6.mono HS.out.2.2.size)
  have hb8 := HS.out.2.1.trans (hb7.mono HS.out.2.1.size)
  have hXl := HR.out.old
  have hk1 : SV w6 X (.slice A 5 c) (keyL 89 [n]) := apart_of HS.out.1 (fun z hz => Nat.lt_of_lt_of_le (hXl z hz) HB.out.size) hb7
  have hk2 : SV w6 X (.slice A2 8 c2) (packN 8 [s]) := apart_of hs2 (fun z hz => Nat.lt_of_lt_of_le (hXl z hz) (Nat.le_trans HS.out.2.1.size HS.out.2.2.size)) (Below.refl _ _)
  have hput := rvPut_any (HR.out.below hb8) hN hD hk1 hk2
  rw [putE_year, if_pos rfl, if_pos rfl] at hput
  have HQ := Lib.hid hput
  have HB8 := Lib.hid hb8
  clear hs2 hb6 hb7 hb8 hXl hk1 hk2 hput HP HS HR HB
  go_wp2_with fail
  refine HQ.out.mono ?_
  rintro e w7 ⟨rfl, hr7, ht7⟩
  have HE := Lib.hid (And.intro hr7 ((Touch.of_below HB8.out).trans ht7))
  clear hr7 ht7 HQ HB8
  go_wp2_with fail
  go_ret
  exact ⟨rfl, HE.out⟩
set_option maxHeartbeats 1600000 in
theorem ryOpen_any (h : RefAt w X x p q r a b d) (hN : b.length ≤ 2147483647) (hD : d.length ≤ 2147483647) (n : Int) (hn : -9223372036854775808 ≤ n ∧ n ≤ 9223372036854775807) :
    Calls Tryz.prog 34 #[.pointer (some ⟨x, 0, none⟩), .int .i64 n] w fun e w' => e = .returned (.int .i64 (openE (lookT b (yKey n)) n)) ∧ RefAt w' X x p q r a (if openE (lookT b (yKey n)) n = 0 then setT b (yKey n) (packN 8 [1]) else b) (if openE (lookT b (yKey n)) n = 0 then setT d (yKey n) [] else d) ∧ Touch (fun k => k = q ∨ k = r) w w' := by
  have HR := Lib.hid (ryRight_any n w)
  have HSAME := Lib.hid (show ∀ W, Below w.heap.size w W → RefAt W X x p q r a b d ∧ Touch (fun k => k = q ∨ k = r) w W from fun W hb => ⟨h.below hb, Touch.of_below hb⟩)
  unfold openE
  cases hy : yearB n with
  | false =>
    rw [if_neg (by decide), if_neg (by decide), if_neg (by decide)]
    rw [hy] at HR
    clear h hy
    go_enter Tryz.func34, Tryz.ntmps34
    go_wp2_with fail
    refine HR.out.mono ?_
    rintro e w1 ⟨rfl, rfl⟩
    go_wp2_with fail
    go_ret
    exact ⟨rfl, HSAME.out _ (Below.refl _ _)⟩
  | true =>
  rw [if_pos rfl]
  rw [hy] at HR
  have HS := Lib.hid (ryState_any h hN n hn)
  have HSET := Lib.hid (show ∀ W, Below w.heap.size w W → Calls Tryz.prog 69 #[.pointer (some ⟨x, 0, none⟩), .int .i64 n, .int .i64 1] W fun e w' => e = .returned (.int .i64 0) ∧ RefAt w' X x p q r a (setT b (yKey n) (packN 8 [1])) (setT d (yKey n) []) ∧ Touch (fun k => k = q ∨ k = r) W w' from fun W hb => rySet_any (h.below hb) hN hD n 1 hn (by omega))
  generalize stV (lookT b (yKey n)) = k at HS ⊢
  clear h hy
  by_cases hk : k = 0
  · subst hk
    rw [if_pos rfl, if_pos rfl, if_pos rfl]
    go_enter Tryz.func34, Tryz.ntmps34
    go_wp2_with fail
    refine HR.out.mono ?_
    rintro e w2 ⟨rfl, rfl⟩
    go_wp2_with fail
    refine HS.out.mono ?_
    rintro e w3 ⟨rfl, hb3⟩
    have HQ := Lib.hid (HSET.out _ hb3)
    have HB3 := Lib.hid hb3
    clear hb3 HS HSET
    go_wp2_with fail
    refine HQ.out.mono ?_
    rintro e w4 ⟨rfl, hv4, ht4⟩
    have HE := Lib.hid (And.intro hv4 ((Touch.of_below HB3.out).trans ht4))
    clear hv4 ht4 HQ
    go_wp2_with fail
    go_ret
    exact ⟨rfl, HE.out⟩
  · rw [if_neg hk, if_neg (by decide), if_neg (by decide)]
    have hk2 : (k != 0) = true := by simp [hk]
    clear hk HSET
    go_enter Tryz.func34, Tryz.ntmps34
    go_wp2_with fail
    refine HR.out.mono ?_
    rintro e w2 ⟨rfl, rfl⟩
    go_wp2_with fail
    refine HS.out.mono ?_
    rintro e w3 ⟨rfl, hb3⟩
    have HE := Lib.hid hb3
    clear hb3 HS
    go_wp2_with fail
    go_ret
    exact ⟨rfl, HSAME.out _ HE.out⟩
end
set_option maxHeartbeats 1600000 in
theorem rOf_any {w : World} {A : Option Addr} {n c B : Nat} {b : List Int} (t : Int) (hr : RB w B A n b) (hB : B ≤ w.heap.size) (hc : n ≤ c) (hm : n ≤ maxLen) (h0 : b[0]? = some t) :
    Calls Tryz.prog 164 #[.slice A n c, .int .u8 t, .int .i64 1] w fun e w' => ∃ A' k c' ok, e = .returned (.tuple #[.slice A' k c', .bool ok]) ∧ (ok = true → ∃ z, k = 1 ∧ oneOf b = some z ∧ RI w' w'.heap.size A' 1 [z]) ∧ (ok = false → oneOf b = none) ∧ Below w.heap.size w w' := by
  have HG := Lib.hid (rSplit_any A n c B b w hr hB hc hm)
  have hone := Lib.hid (oneOf_split b)
  have htag : (splitK b).2.2 = true → (splitK b).2.1 = t := by
    unfold splitK splitR
    split
    · intro _
      show b[0]?.getD 0 = t
      rw [h0]; rfl
    · intro h; cases h
  have HT := Lib.hid htag
  clear htag hr h0
  generalize splitK b = rr at HG hone HT
  obtain ⟨nums, tag, okb⟩ := rr
  cases okb with
  | false =>
    go_enter Tryz.func164, Tryz.ntmps164
    go_wp2_with fail
    refine HG.out.mono ?_
    rintro e w2 ⟨A2, k2, c2, rfl, _, _, hr2, hb2⟩
    have HE := Lib.hid hb2
    clear hr2 hb2
    go_wp2_with fail
    go_ret2
    exact ⟨none, 0, 0, false, rfl, (fun h => by cases h), fun _ => by rw [hone.out, if_neg (fun q => by cases q.1)], HE.out⟩
  | true =>
    obtain rfl : tag = t := HT.out rfl
    go_enter Tryz.func164, Tryz.ntmps164
    go_wp2_with fail
    refine HG.out.mono ?_
    rintro e w2 ⟨A2, k2, c2, rfl, _, _, hr2, hb2⟩
    have hl2 := hr2.len
    have HE := Lib.hid hb2
    have HR := Lib.hid hr2
    clear hr2 hb2
    by_cases h1 : k2 = 1
    · subst h1
      obtain ⟨z, rfl⟩ : ∃ z, nums = [z] := List.length_eq_one_iff.1 hl2
      clear hl2
      go_wp2_with fail
      go_ret2
      exact ⟨A2, 1, c2, true, rfl, fun _ => ⟨z, (by first | rfl | trivial), by have := hone.out; simpa using this, HR.out⟩, (fun h => by cases h), HE.out⟩
    · have hk : ((k2 : Int) != 1) = true := by simp; omega
      have hnone := Lib.hid (show oneOf b = none by rw [hone.out, if_neg (fun q => h1 (by rw [← hl2]; exact q.2))])
      clear hl2 h1
      go_wp2_with fail
      go_ret2
      exact ⟨none, 0, 0, false, rfl, (fun h => by cases h), fun _ => hnone.out, HE.out⟩
end Go.Proofs.YtlcbmobdokicaaaGreat
