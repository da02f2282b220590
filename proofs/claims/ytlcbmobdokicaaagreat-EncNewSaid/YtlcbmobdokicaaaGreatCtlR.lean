/-
  The texts YrC, YrD, CtlR joined. Conditions: those that each part says at its head.
-/
import Derived.Test.YtlcbmobdokicaaaGreatYrB
import Derived.Test.YtlcbmobdokicaaaGreatManS
import Derived.Test.YtlcbmobdokicaaaGreatSeqS
import Derived.Test.YtlcbmobdokicaaaGreatDocV
import Derived.Test.YtlcbmobdokicaaaGreatTreS
import Derived.Test.YtlcbmobdokicaaaGreatCtlM
import Derived.Test.YtlcbmobdokicaaaGreatPreO

/-
  Contract of years.All over a view in memory: the years that are there, in a row of the call's own; nothing that was there is written. Condition: what a scan of the tag comes to.
-/
namespace Go.Proofs.YtlcbmobdokicaaaGreat
open Go.RowKit Go.Maps
set_option maxRecDepth 100000
set_option linter.unusedVariables false

/-- The year that a pair is. -/
def yOf (x : KV) : Option Int := if stV (some x.2) = 0 then none else oneOf x.1
def yearsK (ps : List KV) : List Int := ps.filterMap yOf
theorem yearsK_len (ps : List KV) : (yearsK ps).length ≤ ps.length := List.length_filterMap_le _ _
theorem yearsK_step {ps : List KV} {k : Nat} {x : KV} (h : ps[k]? = some x) : yearsK (ps.take (k + 1)) = yearsK (ps.take k) ++ (yOf x).toList := by
  obtain ⟨hk, rfl⟩ := List.getElem?_eq_some_iff.1 h
  unfold yearsK
  rw [List.take_succ_eq_append_getElem hk, List.filterMap_append]
  congr 1
theorem yearsK_ints {ps : List KV} (h : ∀ x ∈ ps, AllBytes x.1) : ∀ x ∈ yearsK ps, -9223372036854775808 ≤ x ∧ x ≤ 9223372036854775807 := by
  intro x hx
  obtain ⟨q, hq, e⟩ := List.mem_filterMap.1 hx
  unfold yOf at e
  split at e
  · cases e
  · exact numsK_ints h x (List.mem_filterMap.2 ⟨q, hq, e⟩)
section
variable {w w' : World} {v : Nat}
end
end Go.Proofs.YtlcbmobdokicaaaGreat

/-
  Contracts of the document's own years over its own view: State, Check, Open, Shut, Right, and what a key of a tag with one number is. Condition: which number is an int; tables of fewer than 2^31 pairs.
-/
namespace Go.Proofs.YtlcbmobdokicaaaGreat
open Go.RowKit Go.Maps
set_option maxRecDepth 100000
set_option linter.unusedVariables false

set_option maxHeartbeats 400000 in
theorem ryRight_any (a : Int) (w : World) : Calls Tryz.prog 67 #[.int .i64 a] w fun e w' => e = .returned (.bool (yearB a)) ∧ w = w' := by
  unfold yearB
  by_cases h : 2000 ≤ a
  · go_enter Tryz.func67, Tryz.ntmps67
    go_wp2
    go_ret
    simp; omega
  · go_enter Tryz.func67, Tryz.ntmps67
    go_wp2
    go_ret
    simp; omega
section
variable {w w' : World} {X : Nat → Prop} {x p q r : Nat} {a b d : TL}
theorem rOne_any (t n : Int) (W : World) (g : Nat) (T : TypeId) (ht : 0 ≤ t ∧ t < 256) (h : W.heap[g]? = some (.cells #[.int .i64 n] T (0, 0))) (hn : -9223372036854775808 ≤ n ∧ n ≤ 9223372036854775807) :
    Calls Tryz.prog 99 #[.int .u8 t, .slice (some ⟨g, 0, none⟩) 1 1] W fun e w' => ∃ A c, e = .returned (.slice A 5 c) ∧ SV w' (fun k => k < W.heap.size) (.slice A 5 c) (keyL t [n]) ∧ Below W.heap.size W w' := by
  have hr : RI W W.heap.size (some ⟨g, 0, none⟩) 1 [n] := by
    refine ⟨rfl, fun y hy => by obtain rfl := List.mem_singleton.1 hy; exact hn, fun _ => ⟨g, 0, rfl, (Array.getElem?_eq_some_iff.1 h).1, fun j hj => ?_⟩⟩
    rw [Nat.zero_add, cell_of_row W g j _ T (0, 0) h]
    obtain rfl : j = 0 := by simpa using hj
    rfl
  refine (rKey_any t _ 1 1 _ [n] W ht hr (Nat.le_refl _) (Nat.le_refl _) (by decide)).mono ?_
  rintro e w' ⟨u, rfl, ho⟩
  have e5 : (keyL t [n]).length = 5 := by unfold keyL; rw [tagL_length]; rfl
  have hs := own_sv ho (tagL_bytes ht _) (by rw [e5]; omega)
  obtain ⟨A, c, rfl, h1, h2⟩ := ho.read (tagL_bytes ht _)
  rw [e5] at hs ⊢
  exact ⟨A, c, rfl, hs, ho.2⟩
set_option maxHeartbeats 1600000 in
theorem ryState_any (h : RefAt w X x p q r a b d) (hN : b.length ≤ 2147483647) (n : Int) (hn : -9223372036854775808 ≤ n ∧ n ≤ 9223372036854775807) :
    Calls Tryz.prog 68 #[.pointer (some ⟨x, 0, none⟩), .int .i64 n] w fun e w' => e = .returned (.int .i64 (stV (lookT b (yKey n)))) ∧ Below w.heap.size w w' := by
  have hb1 : Below w.heap.size w (w.alloc (.cells #[.int .i64 n] 3)) := (Below.refl _ _).alloc (Nat.le_refl _) _
  have HK := Lib.hid (rOne_any 89 n (w.alloc (.cells #[.int .i64 n] 3)) w.heap.size 3 (by omega) (heap_alloc_new w _) hn)
  have HNUM := Lib.hid (show ∀ W A c, Below w.heap.size w W → RB W W.heap.size A 5 (keyL 89 [n]) → Calls Tryz.prog 107 #[.pointer (some ⟨x, 0, none⟩), .slice A 5 c] W fun e w' => ∃ ok, e = .returned (.tuple #[.int .i64 (seqV (lookT b (yKey n))), .bool ok]) ∧ Below W.heap.size W w' from fun W A c hb hr => rNum_any (h.below hb) hN hr (Nat.le_refl _))
  unfold stV
  generalize seqV (lookT b (yKey n)) = k at HNUM ⊢
  have HB := Lib.hid hb1
  clear h hb1
  by_cases h1 : k = 1
  · subst h1
    rw [if_pos (.inl rfl)]
    go_enter Tryz.func68, Tryz.ntmps68
    go_wp2_with fail
    refine HK.out.mono ?_
    rintro e w2 ⟨A, c, rfl, hs, hb2⟩
    obtain ⟨s1, s2, s3⟩ := hs.parts
    have hP := HB.out.trans (hb2.mono HB.out.size)
    have HM := Lib.hid (HNUM.out w2 A c hP s1)
    have HP := Lib.hid hP
    clear s1 s2 s3 hs hb2 hP HK HNUM HB
    go_wp2_with fail
    refine HM.out.mono ?_
    rintro e w3 ⟨ok, rfl, hb3⟩
    have HE := Lib.hid (HP.out.trans (hb3.mono HP.out.size))
    clear hb3 HP HM
    go_wp2_with fail
    go_ret
    exact ⟨rfl, HE.out⟩
  · by_cases h2 : k = 2
    · subst h2
      rw [if_pos (.inr rfl)]
      go_enter Tryz.func68, Tryz.ntmps68
      go_wp2_with fail
      refine HK.out.mono ?_
      rintro e w2 ⟨A, c, rfl, hs, hb2⟩
      obtain ⟨s1, s2, s3⟩ := hs.parts
      have hP := HB.out.trans (hb2.mono HB.out.size)
      have HM := Lib.hid (HNUM.out w2 A c hP s1)
      have HP := Lib.hid hP
      clear s1 s2 s3 hs hb2 hP HK HNUM HB
      go_wp2_with fail
      refine HM.out.mono ?_
      rintro e w3 ⟨ok, rfl, hb3⟩
      have HE := Lib.hid (HP.out.trans (hb3.mono HP.out.size))
      clear hb3 HP HM
      go_wp2_with fail
      go_ret
      exact ⟨rfl, HE.out⟩
    · rw [if_neg (fun z => z.elim h1 h2)]
      have e1 : (k == 1) = false := by simp; omega
      have e2 : (k == 2) = false := by simp; omega
      clear h1 h2
      go_enter Tryz.func68, Tryz.ntmps68
      go_wp2_with fail
      refine HK.out.mono ?_
      rintro e w2 ⟨A, c, rfl, hs, hb2⟩
      obtain ⟨s1, s2, s3⟩ := hs.parts
      have hP := HB.out.trans (hb2.mono HB.out.size)
      have HM := Lib.hid (HNUM.out w2 A c hP s1)
      have HP := Lib.hid hP
      clear s1 s2 s3 hs hb2 hP HK HNUM HB
      go_wp2_with fail
      refine HM.out.mono ?_
      rintro e w3 ⟨ok, rfl, hb3⟩
      have HE := Lib.hid (HP.out.trans (hb3.mono HP.out.size))
      clear hb3 HP HM
      go_wp2_with fail
      go_ret
      exact ⟨rfl, HE.out⟩
set_option maxHeartbeats 800000 in
theorem ryCheck_any (h : RefAt w X x p q r a b d) (hN : b.length ≤ 2147483647) (n : Int) (hn : -9223372036854775808 ≤ n ∧ n ≤ 9223372036854775807) :
    Calls Tryz.prog 77 #[.pointer (some ⟨x, 0, none⟩), .int .i64 n] w fun e w' => e = .returned (.int .i64 (chkE (stV (lookT b (yKey n))))) ∧ Below w.heap.size w w' := by
  have HL := Lib.hid (ryState_any h hN n hn)
  have h3 := stV_three (lookT b (yKey n))
  generalize stV (lookT b (yKey n)) = k at HL h3 ⊢
  clear h
  rcases h3 with rfl | rfl | rfl <;> (
    go_enter Tryz.func77, Tryz.ntmps77
    go_wp2_with fail
    refine HL.out.mono ?_
    rintro e w2 ⟨rfl, hb2⟩
    have HE := Lib.hid hb2
    clear hb2 HL
    go_wp2_with fail
    go_ret
    exact ⟨rfl, HE.out⟩)
set_option maxHeartbeats 3200000 in
theorem rySet_any (h : RefAt w X x p q r a b d) (hN : b.length ≤ 2147483647) (hD : d.length ≤ 2147483647) (n s : Int) (hn : -9223372036854775808 ≤ n ∧ n ≤ 9223372036854775807) (hs : -9223372036854775808 ≤ s ∧ s ≤ 9223372036854775807) :
    Calls Tryz.prog 69 #[.pointer (some ⟨x, 0, none⟩), .int .i64 n, .int .i64 s] w fun e w' => e = .returned (.int .i64 0) ∧ RefAt w' X x p q r a (setT b (yKey n) (packN 8 [s])) (setT d (yKey n) []) ∧ Touch (fun k => k = q ∨ k = r) w w' := by
  have HR := Lib.hid h
  have hb3 : Below w.heap.size w (w.alloc (.cells #[.int .i64 n] 3)) := (Below.refl _ _).alloc (Nat.le_refl _) _
  have HK := Lib.hid (rOne_any 89 n (w.alloc (.cells #[.int .i64 n] 3)) w.heap.size 3 (by omega) (heap_alloc_new w _) hn)
  have HB := Lib.hid hb3
  clear hb3 h
  go_enter Tryz.func69, Tryz.ntmps69
  go_wp2_with fail
  refine HK.out.mono ?_
  rintro e w4 ⟨A, c, rfl, hs4, hb4⟩
  have hb5 : Below w4.heap.size w4 (w4.alloc (.cells #[.int .i64 s] 3)) := (Below.refl _ _).alloc (Nat.le_refl _) _
  have HP := Lib.hid (rPackOne_any s (w4.alloc (.cells #[.int .i64 s] 3)) w4.heap.size 3 (heap_alloc_new w4 _) hs)
  have HS := Lib.hid (And.intro hs4 (And.intro (HB.out.trans (hb4.mono HB.out.size)) hb5))
  clear hs4 hb4 hb5 HK
  go_wp2_with fail
  refine HP.out.mono ?_
  rintro e w6 ⟨A2, c2, rfl, hs2, hb6⟩
  have hb7 := HS.out.2.2.trans (hb6.mono HS.out.2.2.size)
  have hb8 := HS.out.2.1.trans (hb7.mono HS.out.2.1.size)
  have hXl := HR.out.old
  have hk1 : SV w6 X (.slice A 5 c) (keyL 89 [n]) := apart_of HS.out.1 (fun z hz => Nat.lt_of_lt_of_le (hXl z hz) HB.out.size) hb7
  have hk2 : SV w6 X (.slice A2 8 c2) (packN 8 [s]) := apart_of hs2 (fun z hz => Nat.lt_of_lt_of_le (hXl z hz) (Nat.le_trans HS.out.2.1.size HS.out.2.2.size)) (Below.refl _ _)
  have hput := rvPut_any (HR.out.below hb8) hN hD hk1 hk2
  rw [putE_year, if_pos rfl, if_pos rfl] at hput
  have HQ := Lib.hid hput
  have HB8 := Lib.hid hb8
  clear hs2 hb6 hb7 hb8 hXl hk1 hk2 hput HP HS HR HB
  go_wp2_with fail
  refine HQ.out.mono ?_
  rintro e w7 ⟨rfl, hr7, ht7⟩
  have HE := Lib.hid (And.intro hr7 ((Touch.of_below HB8.out).trans ht7))
  clear hr7 ht7 HQ HB8
  go_wp2_with fail
  go_ret
  exact ⟨rfl, HE.out⟩
set_option maxHeartbeats 1600000 in
theorem ryOpen_any (h : RefAt w X x p q r a b d) (hN : b.length ≤ 2147483647) (hD : d.length ≤ 2147483647) (n : Int) (hn : -9223372036854775808 ≤ n ∧ n ≤ 9223372036854775807) :
    Calls Tryz.prog 34 #[.pointer (some ⟨x, 0, none⟩), .int .i64 n] w fun e w' => e = .returned (.int .i64 (openE (lookT b (yKey n)) n)) ∧ RefAt w' X x p q r a (if openE (lookT b (yKey n)) n = 0 then setT b (yKey n) (packN 8 [1]) else b) (if openE (lookT b (yKey n)) n = 0 then setT d (yKey n) [] else d) ∧ Touch (fun k => k = q ∨ k = r) w w' := by
  have HR := Lib.hid (ryRight_any n w)
  have HSAME := Lib.hid (show ∀ W, Below w.heap.size w W → RefAt W X x p q r a b d ∧ Touch (fun k => k = q ∨ k = r) w W from fun W hb => ⟨h.below hb, Touch.of_below hb⟩)
  unfold openE
  cases hy : yearB n with
  | false =>
    rw [if_neg (by decide), if_neg (by decide), if_neg (by decide)]
    rw [hy] at HR
    clear h hy
    go_enter Tryz.func34, Tryz.ntmps34
    go_wp2_with fail
    refine HR.out.mono ?_
    rintro e w1 ⟨rfl, rfl⟩
    go_wp2_with fail
    go_ret
    exact ⟨rfl, HSAME.out _ (Below.refl _ _)⟩
  | true =>
  rw [if_pos rfl]
  rw [hy] at HR
  have HS := Lib.hid (ryState_any h hN n hn)
  have HSET := Lib.hid (show ∀ W, Below w.heap.size w W → Calls Tryz.prog 69 #[.pointer (some ⟨x, 0, none⟩), .int .i64 n, .int .i64 1] W fun e w' => e = .returned (.int .i64 0) ∧ RefAt w' X x p q r a (setT b (yKey n) (packN 8 [1])) (setT d (yKey n) []) ∧ Touch (fun k => k = q ∨ k = r) W w' from fun W hb => rySet_any (h.below hb) hN hD n 1 hn (by omega))
  generalize stV (lookT b (yKey n)) = k at HS ⊢
  clear h hy
  by_cases hk : k = 0
  · subst hk
    rw [if_pos rfl, if_pos rfl, if_pos rfl]
    go_enter Tryz.func34, Tryz.ntmps34
    go_wp2_with fail
    refine HR.out.mono ?_
    rintro e w2 ⟨rfl, rfl⟩
    go_wp2_with fail
    refine HS.out.mono ?_
    rintro e w3 ⟨rfl, hb3⟩
    have HQ := Lib.hid (HSET.out _ hb3)
    have HB3 := Lib.hid hb3
    clear hb3 HS HSET
    go_wp2_with fail
    refine HQ.out.mono ?_
    rintro e w4 ⟨rfl, hv4, ht4⟩
    have HE := Lib.hid (And.intro hv4 ((Touch.of_below HB3.out).trans ht4))
    clear hv4 ht4 HQ
    go_wp2_with fail
    go_ret
    exact ⟨rfl, HE.out⟩
  · rw [if_neg hk, if_neg (by decide), if_neg (by decide)]
    have hk2 : (k != 0) = true := by simp [hk]
    clear hk HSET
    go_enter Tryz.func34, Tryz.ntmps34
    go_wp2_with fail
    refine HR.out.mono ?_
    rintro e w2 ⟨rfl, rfl⟩
    go_wp2_with fail
    refine HS.out.mono ?_
    rintro e w3 ⟨rfl, hb3⟩
    have HE := Lib.hid hb3
    clear hb3 HS
    go_wp2_with fail
    go_ret
    exact ⟨rfl, HSAME.out _ HE.out⟩
end
set_option maxHeartbeats 1600000 in
theorem rOf_any {w : World} {A : Option Addr} {n c B : Nat} {b : List Int} (t : Int) (hr : RB w B A n b) (hB : B ≤ w.heap.size) (hc : n ≤ c) (hm : n ≤ maxLen) (h0 : b[0]? = some t) :
    Calls Tryz.prog 164 #[.slice A n c, .int .u8 t, .int .i64 1] w fun e w' => ∃ A' k c' ok, e = .returned (.tuple #[.slice A' k c', .bool ok]) ∧ (ok = true → ∃ z, k = 1 ∧ oneOf b = some z ∧ RI w' w'.heap.size A' 1 [z]) ∧ (ok = false → oneOf b = none) ∧ Below w.heap.size w w' := by
  have HG := Lib.hid (rSplit_any A n c B b w hr hB hc hm)
  have hone := Lib.hid (oneOf_split b)
  have htag : (splitK b).2.2 = true → (splitK b).2.1 = t := by
    unfold splitK splitR
    split
    · intro _
      show b[0]?.getD 0 = t
      rw [h0]; rfl
    · intro h; cases h
  have HT := Lib.hid htag
  clear htag hr h0
  generalize splitK b = rr at HG hone HT
  obtain ⟨nums, tag, okb⟩ := rr
  cases okb with
  | false =>
    go_enter Tryz.func164, Tryz.ntmps164
    go_wp2_with fail
    refine HG.out.mono ?_
    rintro e w2 ⟨A2, k2, c2, rfl, _, _, hr2, hb2⟩
    have HE := Lib.hid hb2
    clear hr2 hb2
    go_wp2_with fail
    go_ret2
    exact ⟨none, 0, 0, false, rfl, (fun h => by cases h), fun _ => by rw [hone.out, if_neg (fun q => by cases q.1)], HE.out⟩
  | true =>
    obtain rfl : tag = t := HT.out rfl
    go_enter Tryz.func164, Tryz.ntmps164
    go_wp2_with fail
    refine HG.out.mono ?_
    rintro e w2 ⟨A2, k2, c2, rfl, _, _, hr2, hb2⟩
    have hl2 := hr2.len
    have HE := Lib.hid hb2
    have HR := Lib.hid hr2
    clear hr2 hb2
    by_cases h1 : k2 = 1
    · subst h1
      obtain ⟨z, rfl⟩ : ∃ z, nums = [z] := List.length_eq_one_iff.1 hl2
      clear hl2
      go_wp2_with fail
      go_ret2
      exact ⟨A2, 1, c2, true, rfl, fun _ => ⟨z, (by first | rfl | trivial), by have := hone.out; simpa using this, HR.out⟩, (fun h => by cases h), HE.out⟩
    · have hk : ((k2 : Int) != 1) = true := by simp; omega
      have hnone := Lib.hid (show oneOf b = none by rw [hone.out, if_neg (fun q => h1 (by rw [← hl2]; exact q.2))])
      clear hl2 h1
      go_wp2_with fail
      go_ret2
      exact ⟨none, 0, 0, false, rfl, (fun h => by cases h), fun _ => hnone.out, HE.out⟩
end Go.Proofs.YtlcbmobdokicaaaGreat

/-
  The document's ctrl by contract: right, in, Allows, Charge over its own view. What an error leaves is not said, but that nothing is committed. Condition: which numbers are ints.
-/
namespace Go.Proofs.YtlcbmobdokicaaaGreat
open Go.RowKit Go.Maps
set_option maxRecDepth 100000
set_option linter.unusedVariables false

theorem wrapI_is (n : Int) : IntKind.i64.wrap n = wrap64 n := by rw [IntKind.wrap_i64]; unfold wrap64; omega
/-- May a figure be? -/
def okF (n : Int) : Bool := !(outC 0 1152921504606846976 n)
def okT (n : Int) : Bool := !(outC (-1152921504606846976) 1152921504606846976 n)
theorem rFig_any (n : Int) (w : World) : Calls Tryz.prog 120 #[.int .i64 n] w fun e w' => e = .returned (.bool (okF n)) ∧ w = w' := by
  unfold okF outC
  by_cases g1 : n < 0
  · have k1 : decide (0 ≤ n) = false := decide_eq_false (by omega)
    rw [decide_eq_true g1, Bool.true_or, Bool.not_true]
    clear g1
    go_enter Tryz.func120, Tryz.ntmps120
    go_wp2_with fail
    go_ret
    exact ⟨rfl, rfl⟩
  · have k1 : decide (0 ≤ n) = true := decide_eq_true (by omega)
    rw [decide_eq_false g1, Bool.false_or]
    by_cases g2 : n > 1152921504606846976
    · have k2 : decide (n ≤ 1152921504606846976) = false := decide_eq_false (by omega)
      rw [decide_eq_true g2, Bool.not_true]
      clear g1 g2
      go_enter Tryz.func120, Tryz.ntmps120
      go_wp2_with fail
      go_ret
      exact ⟨rfl, rfl⟩
    · have k2 : decide (n ≤ 1152921504606846976) = true := decide_eq_true (by omega)
      rw [decide_eq_false g2, Bool.not_false]
      clear g1 g2
      go_enter Tryz.func120, Tryz.ntmps120
      go_wp2_with fail
      go_ret
      exact ⟨rfl, rfl⟩
theorem rInT_any (n : Int) (w : World) : Calls Tryz.prog 153 #[.int .i64 n] w fun e w' => e = .returned (.bool (okT n)) ∧ w = w' := by
  unfold okT outC
  by_cases g1 : n < -1152921504606846976
  · have k1 : decide (-1152921504606846976 ≤ n) = false := decide_eq_false (by omega)
    rw [decide_eq_true g1, Bool.true_or, Bool.not_true]
    clear g1
    go_enter Tryz.func153, Tryz.ntmps153
    go_wp2_with fail
    go_ret
    exact ⟨rfl, rfl⟩
  · have k1 : decide (-1152921504606846976 ≤ n) = true := decide_eq_true (by omega)
    rw [decide_eq_false g1, Bool.false_or]
    by_cases g2 : n > 1152921504606846976
    · have k2 : decide (n ≤ 1152921504606846976) = false := decide_eq_false (by omega)
      rw [decide_eq_true g2, Bool.not_true]
      clear g1 g2
      go_enter Tryz.func153, Tryz.ntmps153
      go_wp2_with fail
      go_ret
      exact ⟨rfl, rfl⟩
    · have k2 : decide (n ≤ 1152921504606846976) = true := decide_eq_true (by omega)
      rw [decide_eq_false g2, Bool.not_false]
      clear g1 g2
      go_enter Tryz.func153, Tryz.ntmps153
      go_wp2_with fail
      go_ret
      exact ⟨rfl, rfl⟩
set_option maxHeartbeats 6400000 in
theorem rAllows_any (x : Nd) (more : Int) (w : World) : Calls Tryz.prog 121 #[.agg #[.int .i64 x.y, .int .i64 x.i, .int .i64 x.p, .int .i64 x.f, .int .i64 x.o, .bool x.ab, .int .i64 x.li, .int .i64 x.pr, .int .i64 x.en, .int .i64 x.ex, .int .i64 x.la, .int .i64 x.ca], .int .i64 more] w fun r w' => r = .returned (.tuple #[.bool (allowsN x more).1, .bool (allowsN x more).2]) ∧ Below w.heap.size w w' := by
  obtain ⟨w1, hw1⟩ : ∃ w1, w1 = w.alloc (.cells #[.int .i64 x.y, .int .i64 x.i, .int .i64 x.p, .int .i64 x.f, .int .i64 x.o, .bool x.ab, .int .i64 x.li, .int .i64 x.pr, .int .i64 x.en, .int .i64 x.ex, .int .i64 x.la, .int .i64 x.ca] 41) := ⟨_, rfl⟩
  have hb1 : Below w.heap.size w w1 := by rw [hw1]; exact (Below.refl _ _).alloc (Nat.le_refl _) _
  have hblk : w1.heap[w.heap.size]? = some (.cells #[.int .i64 x.y, .int .i64 x.i, .int .i64 x.p, .int .i64 x.f, .int .i64 x.o, .bool x.ab, .int .i64 x.li, .int .i64 x.pr, .int .i64 x.en, .int .i64 x.ex, .int .i64 x.la, .int .i64 x.ca] 41 (0, 0)) := by rw [hw1]; exact heap_alloc_new w _
  have hs1 : w1.heap.size = w.heap.size + 1 := by rw [hw1]; simp
  have HU := Lib.hid (fun W => rUsed_any x W)
  have HC := Lib.hid (show ∀ W, Below w1.heap.size w1 W → W.heap[w.heap.size]? = some (.cells #[.int .i64 x.y, .int .i64 x.i, .int .i64 x.p, .int .i64 x.f, .int .i64 x.o, .bool x.ab, .int .i64 x.li, .int .i64 x.pr, .int .i64 x.en, .int .i64 x.ex, .int .i64 x.la, .int .i64 x.ca] 41 (0, 0)) from fun W hW => (hW.block w.heap.size (by omega)).trans hblk)
  have HB := Lib.hid hb1
  have HI := Lib.hid (fun n W => rInT_any n W)
  have E0 : allowsN x more = if more > 1152921504606846976 ∨ (okT (usedN x) && (okT x.li && true)) = false then (false, false) else if more < 1 ∨ wrap64 (usedN x + more) ≤ x.li then (true, false) else if x.ab = true then (false, false) else (true, true) := rfl
  generalize allowsN x more = res at E0 ⊢
  generalize usedN x = us at HU E0
  obtain ⟨y, i, p, f, o, ab, li, pr, en, ex, la, ca⟩ := x
  simp only at HU HC hw1 E0 ⊢
  have E := Lib.hid E0
  clear E0 hb1 hs1 hblk
  go_enter Tryz.func121, Tryz.ntmps121
  go_wp2_with fail
  rw [← hw1]
  clear hw1
  refine (HU.out _).mono ?_
  rintro r w2 ⟨rfl, hb2⟩
  obtain ⟨z0, z1, z2, z3, z4, z5, z6, z7, z8, z9, z10, z11⟩ := node_cells (HC.out w2 hb2)
  have HE := Lib.hid (HB.out.trans (hb2.mono HB.out.size))
  clear hb2 HU HC HB
  by_cases g0 : more > 1152921504606846976
  · have k0 : decide (more > 1152921504606846976) = true := decide_eq_true g0
    have hres : res = (false, false) := by rw [E.out, if_pos (.inl g0)]
    subst hres
    clear E
    go_wp2_with fail
    go_ret2
    exact ⟨rfl, HE.out⟩
  · have k0 : decide (more > 1152921504606846976) = false := decide_eq_false g0
    have G0 := Lib.hid g0
    clear g0
    go_wp2_with fail
    refine (HI.out _ _).mono ?_
    rintro r w' ⟨rfl, rfl⟩
    obtain ⟨t1, ht1⟩ : ∃ t, t = okT us := ⟨_, rfl⟩
    have E2 := E.out
    rw [← ht1] at E2 ⊢
    have E := Lib.hid E2
    clear E2 ht1
    cases t1 with
    | false =>
      have hres : res = (false, false) := by rw [E.out, if_pos (.inr (by rfl))]
      subst hres
      clear E
      go_wp2_with fail
      go_ret2
      exact ⟨rfl, HE.out⟩
    | true =>
      go_wp2_with fail
      refine (HI.out _ _).mono ?_
      rintro r w' ⟨rfl, rfl⟩
      obtain ⟨t2, ht2⟩ : ∃ t, t = okT li := ⟨_, rfl⟩
      have E2 := E.out
      rw [← ht2] at E2 ⊢
      have E := Lib.hid E2
      clear E2 ht2
      cases t2 with
      | false =>
        have hres : res = (false, false) := by rw [E.out, if_pos (.inr (by rfl))]
        subst hres
        clear E
        go_wp2_with fail
        go_ret2
        exact ⟨rfl, HE.out⟩
      | true =>
        have E2 := E.out
        rw [if_neg (by rintro (q | q); exact absurd q (by have := G0.out; omega); cases q)] at E2
        have E := Lib.hid E2
        clear E2 G0
        by_cases g1 : more < 1
        · have k1 : decide (more < 1) = true := decide_eq_true g1
          have hres : res = (true, false) := by rw [E.out, if_pos (.inl g1)]
          subst hres
          clear E g1
          go_wp2_with fail
          go_ret2
          exact ⟨rfl, HE.out⟩
        · have k1 : decide (more < 1) = false := decide_eq_false g1
          obtain ⟨sm, hsm⟩ : ∃ sm, wrap64 (us + more) = sm := ⟨_, rfl⟩
          have hsm' : IntKind.i64.wrap (us + more) = sm := (wrapI_is _).trans hsm
          by_cases g2 : sm ≤ li
          · have k2 : decide (sm ≤ li) = true := decide_eq_true g2
            have hres : res = (true, false) := by rw [E.out, if_pos (.inr (by rw [hsm]; exact g2))]
            subst hres
            clear E g1 g2
            go_wp2_with fail
            go_ret2
            exact ⟨rfl, HE.out⟩
          · have k2 : decide (sm ≤ li) = false := decide_eq_false g2
            have E2 := E.out
            rw [if_neg (by rintro (q | q); exact g1 q; rw [hsm] at q; exact g2 q)] at E2
            have E := Lib.hid E2
            clear E2 g1 g2
            cases ab with
            | true =>
              have hres : res = (false, false) := by rw [E.out, if_pos (by rfl)]
              subst hres
              clear E
              go_wp2_with fail
              go_ret2
              exact ⟨rfl, HE.out⟩
            | false =>
              have hres : res = (true, true) := by rw [E.out, if_neg (by decide)]
              subst hres
              clear E
              go_wp2_with fail
              go_ret2
              exact ⟨rfl, HE.out⟩
/-- The most and the least of three. -/
theorem three_in {p e q m1 m2 l1 l2 : Int} (hm1 : (if p < e then e else p) = m1) (hm2 : (if m1 < q then q else m1) = m2) (hl1 : (if e < p then e else p) = l1) (hl2 : (if q < l1 then q else l1) = l2) (h : inC (-9007199254740992) 9007199254740992 [p, e, q] = true) : decide (9007199254740992 < m2) = false ∧ decide (l2 < -9007199254740992) = false := by
  have a := inC_mem h p (by simp)
  have b := inC_mem h e (by simp)
  have c := inC_mem h q (by simp)
  refine ⟨decide_eq_false ?_, decide_eq_false ?_⟩
  · split at hm1 <;> split at hm2 <;> omega
  · split at hl1 <;> split at hl2 <;> omega
theorem three_out {p e q m1 m2 l1 l2 : Int} (hm1 : (if p < e then e else p) = m1) (hm2 : (if m1 < q then q else m1) = m2) (hl1 : (if e < p then e else p) = l1) (hl2 : (if q < l1 then q else l1) = l2) (h : inC (-9007199254740992) 9007199254740992 [p, e, q] = false) (h1 : decide (9007199254740992 < m2) = false) : decide (l2 < -9007199254740992) = true := by
  unfold inC outC at h
  simp only [List.all_cons, List.all_nil, Bool.and_true, Bool.and_eq_false_iff, Bool.not_eq_false', Bool.or_eq_true, decide_eq_true_eq] at h
  have := of_decide_eq_false h1
  refine decide_eq_true ?_
  split at hm1 <;> split at hm2 <;> split at hl1 <;> split at hl2 <;> omega
/-- What the document's charge leaves of a view. -/
def ChgAt (w w1 wr : World) (X : Nat → Prop) (x pp qq r : Nat) (a : TL) (S : VS) (N : Nat) (P : List Nd) (p e q : Int) (j : Nat) : Prop :=
  RefS wr X x pp qq r a (((P.take j).map fun x => growN x p e q).foldl VS.putN S) (N + j) ∧ Touch (fun k => k = qq ∨ k = r) w1 wr ∧ ∀ x ∈ P.take j, (chkN x p e q).2 = 0
section
variable {w w' : World} {X : Nat → Prop} {x pp qq r N : Nat} {a : TL} {S : VS}
/-- The document's Put of a node. -/
theorem rPutS_any (h : RefS w X x pp qq r a S N) (hN : N ≤ 1000000000) (n : Nd) (hn : NdOk n) :
    Calls Tryz.prog 36 #[.pointer (some ⟨x, 0, none⟩), .agg #[.int .i64 n.y, .int .i64 n.i, .int .i64 n.p, .int .i64 n.f, .int .i64 n.o, .bool n.ab, .int .i64 n.li, .int .i64 n.pr, .int .i64 n.en, .int .i64 n.ex, .int .i64 n.la, .int .i64 n.ca]] w fun e w' => e = .returned (.int .i64 0) ∧ RefS w' X x pp qq r a (S.putN n) (N + 1) ∧ Touch (fun k => k = qq ∨ k = r) w w' := by
  obtain ⟨b, d, h1, h2, h3, h4⟩ := h
  refine (rPutN_any h1 (Nat.le_trans h3 (by omega)) (Nat.le_trans h4 (by omega)) n hn).mono ?_
  rintro e w' ⟨rfl, h5, h6⟩
  exact ⟨rfl, ⟨_, _, h5, h2.put _ _, Nat.le_trans (setT_len _ _ _) (Nat.succ_le_succ h3), Nat.le_trans (setT_len _ _ _) (Nat.succ_le_succ h4)⟩, h6⟩
theorem rPathS_any (h : RefS w X x pp qq r a S N) (hN : N ≤ 1000000000) (y i : Int) (hy : Nd64 y) (hi : Nd64 i) :
    Calls Tryz.prog 119 #[.pointer (some ⟨x, 0, none⟩), .int .i64 y, .int .i64 i] w fun e w' => ∃ u, e = .returned u ∧ NodesR w w' u (pathN S y 8 i) := by
  obtain ⟨b, d, h1, h2, h3, h4⟩ := h
  exact rPathN_any h1 h2.now (Nat.le_trans h3 (by omega)) y i hy hi
set_option maxHeartbeats 25600000 in
theorem rCharge_any (h : RefS w X x pp qq r a S N) (hm : ManyS S N) (hN : N ≤ 1000000) (y i p e q : Int) (hy : Nd64 y) (hi : Nd64 i) (hp : Nd64 p) (he : Nd64 e) (hq : Nd64 q) :
    Calls Tryz.prog 78 #[.pointer (some ⟨x, 0, none⟩), .int .i64 y, .int .i64 i, .int .i64 p, .int .i64 e, .int .i64 q] w fun u w' => ∃ T, u = .returned (.tuple #[.bool (chargeR S y i p e q).1.1, .int .i64 (chargeR S y i p e q).1.2]) ∧ ((chargeR S y i p e q).1.2 = 0 → T = (chargeR S y i p e q).2) ∧ RefS w' X x pp qq r a T (N + 8) ∧ ManyS T (N + 8) ∧ T.W = S.W ∧ Touch (fun k => k = qq ∨ k = r) w w' := by
  have hP8 := path_len S y 8 i
  have HP := Lib.hid (rPathS_any h (by omega) y i hy hi)
  have HV := Lib.hid (show ∀ W, Below w.heap.size w W → RefS W X x pp qq r a S N from fun W hW => h.below hW)
  have hqw : qq < w.heap.size ∧ r < w.heap.size := ⟨h.old _ h.own.1, h.old _ h.own.2⟩
  have e0 : (pathN S y 8 i).length = 0 → chargeR S y i p e q = ((false, 7), S) := fun h => by unfold chargeR; rw [if_pos (List.eq_nil_of_length_eq_zero h)]
  have e1 : (pathN S y 8 i).length ≠ 0 → inC (-9007199254740992) 9007199254740992 [p, e, q] = false → chargeR S y i p e q = ((false, 9), S) := fun h g => by unfold chargeR; rw [if_neg (fun q => h (by rw [q]; rfl)), if_pos g]
  have e2 : (pathN S y 8 i).length ≠ 0 → inC (-9007199254740992) 9007199254740992 [p, e, q] = true → (∀ x ∈ pathN S y 8 i, (chkN x p e q).2 = 0) → chargeR S y i p e q = ((warnA (pathN S y 8 i) p e q, 0), ((pathN S y 8 i).map fun x => growN x p e q).foldl VS.putN S) := fun h g k => by unfold chargeR; rw [if_neg (fun q => h (by rw [q]; rfl)), if_neg (by rw [g]; decide), chkA_ok k, if_pos rfl]
  have e3 : (pathN S y 8 i).length ≠ 0 → inC (-9007199254740992) 9007199254740992 [p, e, q] = true → ∀ (j : Nat) (x : Nd), (pathN S y 8 i)[j]? = some x → (∀ z ∈ (pathN S y 8 i).take j, (chkN z p e q).2 = 0) → (chkN x p e q).2 ≠ 0 → chargeR S y i p e q = ((false, (chkN x p e q).2), S) := fun h g j x hx hz hn => by unfold chargeR; rw [if_neg (fun q => h (by rw [q]; rfl)), if_neg (by rw [g]; decide), chkA_bad hx hz hn, if_neg hn]
  have E := Lib.hid (And.intro e0 (And.intro e1 (And.intro e2 e3)))
  clear e0 e1 e2 e3
  generalize chargeR S y i p e q = res at E ⊢
  generalize pathN S y 8 i = P at HP hP8 E
  obtain ⟨m1, hm1⟩ : ∃ m1, (if p < e then e else p) = m1 := ⟨_, rfl⟩
  obtain ⟨m2, hm2⟩ : ∃ m2, (if m1 < q then q else m1) = m2 := ⟨_, rfl⟩
  obtain ⟨l1, hl1⟩ : ∃ l1, (if e < p then e else p) = l1 := ⟨_, rfl⟩
  obtain ⟨l2, hl2⟩ : ∃ l2, (if q < l1 then q else l1) = l2 := ⟨_, rfl⟩
  have hti := three_in hm1 hm2 hl1 hl2
  have hto := three_out hm1 hm2 hl1 hl2
  generalize inC (-9007199254740992) 9007199254740992 [p, e, q] = bb at E hti hto
  have HM := Lib.hid hm
  have HSAME := Lib.hid (show ∀ (v : (Bool × Int)) W, v.2 ≠ 0 → Below w.heap.size w W → ∃ T, RefS W X x pp qq r a T (N + 8) ∧ ManyS T (N + 8) ∧ T.W = S.W ∧ Touch (fun k => k = qq ∨ k = r) w W from fun v W h0 hW => ⟨S, (h.below hW).more (by omega), hm.more (by omega), rfl, Touch.of_below hW⟩)
  clear h hm
  go_enter Tryz.func78, Tryz.ntmps78
  go_wp2_with fail
  refine HP.out.mono ?_
  rintro u w1 ⟨u, rfl, h1⟩
  by_cases hn0 : P.length = 0
  · obtain rfl := E.out.1 hn0
    obtain ⟨A, k, rfl, hk⟩ := h1.1.shape
    have k0 : ((P.length : Int) == 0) = true := by rw [hn0]; rfl
    have HE := Lib.hid (HSAME.out (false, 7) w1 (by decide) h1.2.2)
    clear E HP h1 hn0 HV hti hto HSAME
    go_wp2_with fail
    go_ret2
    exact ⟨rfl, HE.out⟩
  obtain ⟨A, cap, rfl, hk, hrow⟩ := h1.read
  have HROW := Lib.hid (show ∀ W, Touch (fun k => k = qq ∨ k = r) w1 W → NdE.R W W.heap.size A P.length P from fun W ht => by
    have ho := h1.1.stays (w' := W) fun g hg => ht.block g (h1.1.at_ g hg).2 (fun e => by have := (h1.1.at_ g hg).1; omega)
    exact (ho.read h1.2.1).2.2)
  have HB1 := Lib.hid h1.2.2
  have HOK := Lib.hid h1.2.1
  obtain ⟨n, hn⟩ : ∃ n, n = P.length := ⟨_, rfl⟩
  rw [← hn] at hn0 hP8 hk ⊢
  have HN := Lib.hid hn
  have hn1 : 0 < n := Nat.pos_of_ne_zero hn0
  have k0 : ((n : Int) == 0) = false := by simp; omega
  have E1 := Lib.hid (fun (h : bb = false) => E.out.2.1 (by rw [← HN.out]; exact hn0) h)
  have E2 := Lib.hid (fun (h : bb = true) => E.out.2.2.1 (by rw [← HN.out]; exact hn0) h)
  have E3 := Lib.hid (fun (h : bb = true) => E.out.2.2.2 (by rw [← HN.out]; exact hn0) h)
  clear E hn h1 hrow HP hn0
  cases bb with
  | false =>
    obtain rfl := E1.out rfl
    have HE := Lib.hid (HSAME.out (false, 9) w1 (by decide) HB1.out)
    clear E1 E2 E3 HV HROW HOK HSAME hti
    cases hmx : decide (9007199254740992 < m2) with
    | true =>
      clear hto
      go_wp2_with fail
      go_ret2
      exact ⟨rfl, HE.out⟩
    | false =>
      have hmn := hto rfl hmx
      clear hto
      go_wp2_with fail
      go_ret2
      exact ⟨rfl, HE.out⟩
  | true =>
  have F2 := Lib.hid (E2.out rfl)
  have F3 := Lib.hid (E3.out rfl)
  obtain ⟨hmx, hmn⟩ := hti rfl
  clear E1 E2 E3 hti hto
  have H0 := Lib.hid (show ChgAt w w1 w1 X x pp qq r a S N P p e q 0 from ⟨HV.out w1 HB1.out, Touch.refl _ _, fun x hx => by rw [List.take_zero] at hx; cases hx⟩)
  go_wp2_with fail
  clear hmx hmn hm1 hm2 hl1 hl2
  go_loopw [15, 16] (fun uw iv wr => ∃ j : Nat, j ≤ n ∧ iv = .int .i64 j ∧ uw = .bool (warnA (P.take j) p e q) ∧ Hid (ChgAt w w1 wr X x pp qq r a S N P p e q j)) (fun _ iv _ => n - (intOf iv).toNat)
  case atStart => exact ⟨0, Nat.zero_le _, rfl, rfl, H0⟩
  case round =>
    clear H0
    obtain ⟨j, hj, rfl, rfl, HJ⟩ := hrel
    by_cases hlt : j < n
    · have hlt' : (j : Int) < (n : Int) := by omega
      have hj0 : (0 : Int) ≤ (j : Int) := by omega
      obtain ⟨hrs, htw, hal⟩ := HJ.out
      obtain ⟨z, hz⟩ : ∃ z, P[j]? = some z := ⟨_, List.getElem?_eq_getElem (by rw [← HN.out]; exact hlt)⟩
      have hzok := HOK.out z (List.mem_of_getElem? hz)
      obtain ⟨b, off, rfl, hb, hat⟩ := nd_at (HROW.out wr htw) hz
      obtain ⟨c0, c1, c2, c3, c4, c5, c6, c7, c8, c9, c10, c11⟩ := ndAt hat
      obtain ⟨wb, hwb⟩ : ∃ wb, wb = wr.alloc (.cells #[.int .i64 z.y, .int .i64 z.i, .int .i64 z.p, .int .i64 z.f, .int .i64 z.o, .bool z.ab, .int .i64 z.li, .int .i64 z.pr, .int .i64 z.en, .int .i64 z.ex, .int .i64 z.la, .int .i64 z.ca] 41 (0, 0)) := ⟨_, rfl⟩
      have hbb : Below wr.heap.size wr wb := by rw [hwb]; exact (Below.refl _ _).alloc (Nat.le_refl _) _
      have hblk : wb.heap[wr.heap.size]? = some (.cells #[.int .i64 z.y, .int .i64 z.i, .int .i64 z.p, .int .i64 z.f, .int .i64 z.o, .bool z.ab, .int .i64 z.li, .int .i64 z.pr, .int .i64 z.en, .int .i64 z.ex, .int .i64 z.la, .int .i64 z.ca] 41 (0, 0)) := by rw [hwb]; exact heap_alloc_new wr _
      have hsz : wb.heap.size = wr.heap.size + 1 := by rw [hwb]; simp
      have HAL := Lib.hid (fun W => rAllows_any z (wrap64 (wrap64 (p + e) + q)) W)
      have HF := Lib.hid (fun n W => rFig_any n W)
      have HWS := Lib.hid (warnA_step hz p e q)
      have HTA := Lib.hid (fun h0 => take_all (Q := fun z => (chkN z p e q).2 = 0) hz hal h0)
      have HEE := Lib.hid (fun h0 => F3.out j z hz hal h0)
      have HFS := Lib.hid (fillN_step hz p e q S)
      have HZ := Lib.hid (And.intro hzok (growN_ok hzok p e q))
      have hWB : Touch (fun k => k = qq ∨ k = r) w wb := (Touch.of_below (F := fun k => k = qq ∨ k = r) HB1.out).trans (htw.trans (Touch.of_below hbb))
      -- a refusal
      have HBAD := Lib.hid (show ∀ (v : Int) W, v ≠ 0 → Below wb.heap.size wb W → ∃ T, RefS W X x pp qq r a T (N + 8) ∧ ManyS T (N + 8) ∧ T.W = S.W ∧ Touch (fun k => k = qq ∨ k = r) w W from fun v W h0 hW =>
        ⟨_, (hrs.below (hbb.trans (hW.mono hbb.size))).more (by omega), ((many_puts (S := S) ((P.take j).map fun x => growN x p e q) HM.out).more (by rw [List.length_map, List.length_take]; omega)), putNs_W _ _, hWB.trans (Touch.of_below hW)⟩)
      have HPT := Lib.hid (show ∀ W, Below wr.heap.size wr W → RefS W X x pp qq r a (((P.take j).map fun x => growN x p e q).foldl VS.putN S) (N + j) ∧ Touch (fun k => k = qq ∨ k = r) w1 W from fun W hW => ⟨hrs.below hW, htw.trans (Touch.of_below hW)⟩)
      have HBB := Lib.hid hbb
      have HBL := Lib.hid (show ∀ W, Below wb.heap.size wb W → W.heap[wr.heap.size]? = some (.cells #[.int .i64 z.y, .int .i64 z.i, .int .i64 z.p, .int .i64 z.f, .int .i64 z.o, .bool z.ab, .int .i64 z.li, .int .i64 z.pr, .int .i64 z.en, .int .i64 z.ex, .int .i64 z.la, .int .i64 z.ca] 41 (0, 0)) from fun W hW => (hW.block _ (by omega)).trans hblk)
      obtain ⟨ck, hck⟩ : ∃ ck, ck = chkN z p e q := ⟨_, rfl⟩
      have hckE : ck = if (okF z.pr && (okF z.en && (okF z.ex && true))) = false ∨ (okF (wrap64 (z.pr + p)) && (okF (wrap64 (z.en + e)) && (okF (wrap64 (z.ex + q)) && true))) = false then (false, 9) else if (allowsN z (wrap64 (wrap64 (p + e) + q))).1 = true then ((allowsN z (wrap64 (wrap64 (p + e) + q))).2, 0) else (false, 11) := hck
      rw [← hck] at HWS HTA HEE
      obtain ⟨ck1, ck2⟩ := ck
      simp only at HTA HEE
      have HWS' := HWS.out
      have HWS := Lib.hid HWS'
      clear HWS'
      have HCK := Lib.hid hckE
      have HG := Lib.hid (show growN z p e q = ⟨z.y, z.i, z.p, z.f, z.o, z.ab, z.li, wrap64 (z.pr + p), wrap64 (z.en + e), wrap64 (z.ex + q), z.la, z.ca⟩ from rfl)
      obtain ⟨bw, hbw⟩ : ∃ bw, bw = warnA (P.take j) p e q := ⟨_, rfl⟩
      rw [← hbw] at HWS ⊢
      have hb0 := Below.refl wb.heap.size wb
      clear hck hckE hbw hal hz hzok HJ hblk hsz hrs htw hat hb hWB
      generalize hG : growN z p e q = G at HFS HZ HG
      clear hG
      generalize allowsN z (wrap64 (wrap64 (p + e) + q)) = al at HAL HCK
      obtain ⟨al1, al2⟩ := al
      obtain ⟨zy, zi, zp, zf, zo, zab, zli, zpr, zen, zex, zla, zca⟩ := z
      simp only at HAL HCK HG hwb HBL c0 c1 c2 c3 c4 c5 c6 c7 c8 c9 c10 c11 ⊢
      have d7 : IntKind.i64.wrap (zpr + p) = wrap64 (zpr + p) := wrapI_is _
      have d8 : IntKind.i64.wrap (zen + e) = wrap64 (zen + e) := wrapI_is _
      have d9 : IntKind.i64.wrap (zex + q) = wrap64 (zex + q) := wrapI_is _
      generalize wrap64 (zpr + p) = g7 at HCK HG d7
      generalize wrap64 (zen + e) = g8 at HCK HG d8
      generalize wrap64 (zex + q) = g9 at HCK HG d9
      go_wp2_with fail
      rw [← hwb]
      clear hwb c0 c1 c2 c3 c4 c5 c6 c7 c8 c9 c10 c11
      obtain ⟨z0, z1, z2, z3, z4, z5, z6, z7, z8, z9, z10, z11⟩ := node_cells (HBL.out wb hb0)
      refine (HF.out _ _).mono ?_
      rintro u w' ⟨rfl, rfl⟩
      obtain ⟨t0, ht0⟩ : ∃ t, t = okF zpr := ⟨_, rfl⟩
      have HCKn := HCK.out
      rw [← ht0] at HCKn ⊢
      have HCK := Lib.hid HCKn
      clear HCKn ht0
      cases t0 with
      | false =>
        have hc : ((ck1, ck2) : Bool × Int) = (false, 9) := by rw [HCK.out, if_pos (.inl (by rfl))]
        injection hc with hc1 hc2
        subst hc1 hc2
        obtain rfl := HEE.out (by decide)
        have HE := Lib.hid (HBAD.out 9 wb (by decide) hb0)
        clear HCK HEE HTA HWS HBAD HPT HBB
        go_wp2_with fail
        go_ret2
        exact ⟨rfl, HE.out⟩
      | true =>
      go_wp2_with fail
      refine (HF.out _ _).mono ?_
      rintro u w' ⟨rfl, rfl⟩
      obtain ⟨t1, ht1⟩ : ∃ t, t = okF zen := ⟨_, rfl⟩
      have HCKn := HCK.out
      rw [← ht1] at HCKn ⊢
      have HCK := Lib.hid HCKn
      clear HCKn ht1
      cases t1 with
      | false =>
        have hc : ((ck1, ck2) : Bool × Int) = (false, 9) := by rw [HCK.out, if_pos (.inl (by rfl))]
        injection hc with hc1 hc2
        subst hc1 hc2
        obtain rfl := HEE.out (by decide)
        have HE := Lib.hid (HBAD.out 9 wb (by decide) hb0)
        clear HCK HEE HTA HWS HBAD HPT HBB
        go_wp2_with fail
        go_ret2
        exact ⟨rfl, HE.out⟩
      | true =>
      go_wp2_with fail
      refine (HF.out _ _).mono ?_
      rintro u w' ⟨rfl, rfl⟩
      obtain ⟨t2, ht2⟩ : ∃ t, t = okF zex := ⟨_, rfl⟩
      have HCKn := HCK.out
      rw [← ht2] at HCKn ⊢
      have HCK := Lib.hid HCKn
      clear HCKn ht2
      cases t2 with
      | false =>
        have hc : ((ck1, ck2) : Bool × Int) = (false, 9) := by rw [HCK.out, if_pos (.inl (by rfl))]
        injection hc with hc1 hc2
        subst hc1 hc2
        obtain rfl := HEE.out (by decide)
        have HE := Lib.hid (HBAD.out 9 wb (by decide) hb0)
        clear HCK HEE HTA HWS HBAD HPT HBB
        go_wp2_with fail
        go_ret2
        exact ⟨rfl, HE.out⟩
      | true =>
      go_wp2_with fail
      refine (HF.out _ _).mono ?_
      rintro u w' ⟨rfl, rfl⟩
      obtain ⟨t3, ht3⟩ : ∃ t, t = okF g7 := ⟨_, rfl⟩
      have HCKn := HCK.out
      rw [← ht3] at HCKn ⊢
      have HCK := Lib.hid HCKn
      clear HCKn ht3
      cases t3 with
      | false =>
        have hc : ((ck1, ck2) : Bool × Int) = (false, 9) := by rw [HCK.out, if_pos (.inr (by rfl))]
        injection hc with hc1 hc2
        subst hc1 hc2
        obtain rfl := HEE.out (by decide)
        have HE := Lib.hid (HBAD.out 9 wb (by decide) hb0)
        clear HCK HEE HTA HWS HBAD HPT HBB
        go_wp2_with fail
        go_ret2
        exact ⟨rfl, HE.out⟩
      | true =>
      go_wp2_with fail
      refine (HF.out _ _).mono ?_
      rintro u w' ⟨rfl, rfl⟩
      obtain ⟨t4, ht4⟩ : ∃ t, t = okF g8 := ⟨_, rfl⟩
      have HCKn := HCK.out
      rw [← ht4] at HCKn ⊢
      have HCK := Lib.hid HCKn
      clear HCKn ht4
      cases t4 with
      | false =>
        have hc : ((ck1, ck2) : Bool × Int) = (false, 9) := by rw [HCK.out, if_pos (.inr (by rfl))]
        injection hc with hc1 hc2
        subst hc1 hc2
        obtain rfl := HEE.out (by decide)
        have HE := Lib.hid (HBAD.out 9 wb (by decide) hb0)
        clear HCK HEE HTA HWS HBAD HPT HBB
        go_wp2_with fail
        go_ret2
        exact ⟨rfl, HE.out⟩
      | true =>
      go_wp2_with fail
      refine (HF.out _ _).mono ?_
      rintro u w' ⟨rfl, rfl⟩
      obtain ⟨t5, ht5⟩ : ∃ t, t = okF g9 := ⟨_, rfl⟩
      have HCKn := HCK.out
      rw [← ht5] at HCKn ⊢
      have HCK := Lib.hid HCKn
      clear HCKn ht5
      cases t5 with
      | false =>
        have hc : ((ck1, ck2) : Bool × Int) = (false, 9) := by rw [HCK.out, if_pos (.inr (by rfl))]
        injection hc with hc1 hc2
        subst hc1 hc2
        obtain rfl := HEE.out (by decide)
        have HE := Lib.hid (HBAD.out 9 wb (by decide) hb0)
        clear HCK HEE HTA HWS HBAD HPT HBB
        go_wp2_with fail
        go_ret2
        exact ⟨rfl, HE.out⟩
      | true =>
      go_wp2_with fail
      refine (HAL.out _).mono ?_
      rintro u w5 ⟨rfl, hb5⟩
      have HCKn := HCK.out
      rw [if_neg (by rintro (q | q) <;> cases q)] at HCKn
      have HCK := Lib.hid HCKn
      clear HCKn z0 z1 z2 z3 z4 z5 z6 z7 z8 z9 z10 z11
      have hblk5 := HBL.out w5 hb5
      obtain ⟨z0, z1, z2, z3, z4, z5, z6, z7, z8, z9, z10, z11⟩ := node_cells hblk5
      have HB5 := Lib.hid hb5
      cases al1 with
      | false =>
        have hc : ((ck1, ck2) : Bool × Int) = (false, 11) := by rw [HCK.out, if_neg (by decide)]
        injection hc with hc1 hc2
        subst hc1 hc2
        obtain rfl := HEE.out (by decide)
        have HE := Lib.hid (HBAD.out 11 w5 (by decide) hb5)
        clear HCK HEE HTA HWS HBAD HPT HBB hb5 hblk5
        go_wp2_with fail
        go_ret2
        exact ⟨rfl, HE.out⟩
      | true =>
      have hc : ((ck1, ck2) : Bool × Int) = (al2, 0) := by rw [HCK.out, if_pos (by rfl)]
      injection hc with hc1 hc2
      subst hc1 hc2
      have HTA' := Lib.hid (HTA.out rfl)
      have hs5 : wr.heap.size < w5.heap.size := (Array.getElem?_eq_some_iff.1 hblk5).1
      have f7 : w5.frozen? ⟨wr.heap.size, 7, none⟩ = false := by simp [World.frozen?, hblk5]
      have f8 : w5.frozen? ⟨wr.heap.size, 8, none⟩ = false := by simp [World.frozen?, hblk5]
      have f9 : w5.frozen? ⟨wr.heap.size, 9, none⟩ = false := by simp [World.frozen?, hblk5]
      obtain ⟨w6, hw6⟩ : ∃ w6, w6 = ((w5.setCell ⟨wr.heap.size, 7, none⟩ (.int .i64 g7)).setCell ⟨wr.heap.size, 8, none⟩ (.int .i64 g8)).setCell ⟨wr.heap.size, 9, none⟩ (.int .i64 g9) := ⟨_, rfl⟩
      have hb6 : Below wr.heap.size wr w6 := by
        rw [hw6]
        exact below_box (below_box (below_box (HBB.out.trans (hb5.mono HBB.out.size)) (Nat.le_refl _) 7 _) (Nat.le_refl _) 8 _) (Nat.le_refl _) 9 _
      obtain ⟨hp1, hp2⟩ := HPT.out w6 hb6
      have HPUT := Lib.hid (show Calls Tryz.prog 36 #[.pointer (some ⟨x, 0, none⟩), .agg #[.int .i64 zy, .int .i64 zi, .int .i64 zp, .int .i64 zf, .int .i64 zo, .bool zab, .int .i64 zli, .int .i64 g7, .int .i64 g8, .int .i64 g9, .int .i64 zla, .int .i64 zca]] w6 fun u w' => u = .returned (.int .i64 0) ∧ ChgAt w w1 w' X x pp qq r a S N P p e q (j + 1) from by
        have hgk := HZ.out.2
        have hfs := HFS.out
        rw [HG.out] at hgk hfs
        refine (rPutS_any hp1 (by omega) _ hgk).mono ?_
        rintro u w7 ⟨rfl, h7, t7⟩
        refine ⟨rfl, ?_, hp2.trans t7, HTA'.out⟩
        rw [hfs]
        exact h7)
      clear hp1 hp2 hb6 hb5 hblk5 HPT HBB HBAD HTA HTA' HEE HFS HG HZ HCK HB5
      cases bw with
      | true =>
        rw [Bool.true_or] at HWS
        go_wp2_with fail
        rw [← hw6]
        clear hw6 z0 z1 z2 z3 z4 z5 z6 z7 z8 z9 z10 z11 f7 f8 f9
        refine HPUT.out.mono ?_
        rintro u w7 ⟨rfl, h7⟩
        have HJ := Lib.hid h7
        clear h7 HPUT
        go_wp2_with fail
        go_roundw
        case rel => exact ⟨j + 1, by omega, by go_num, by rw [HWS.out], HJ⟩
        case measure => simp [intOf]; omega
      | false =>
        rw [Bool.false_or] at HWS
        go_wp2_with fail
        rw [← hw6]
        clear hw6 z0 z1 z2 z3 z4 z5 z6 z7 z8 z9 z10 z11 f7 f8 f9
        refine HPUT.out.mono ?_
        rintro u w7 ⟨rfl, h7⟩
        have HJ := Lib.hid h7
        clear h7 HPUT
        go_wp2_with fail
        go_roundw
        case rel => exact ⟨j + 1, by omega, by go_num, by rw [HWS.out], HJ⟩
        case measure => simp [intOf]; omega

    · obtain rfl : j = n := by omega
      have hall : P.take j = P := by rw [List.take_of_length_le (by rw [HN.out]; exact Nat.le_refl _)]
      obtain ⟨hrs, htw, hal⟩ := HJ.out
      rw [hall] at hrs hal ⊢
      have e := F2.out hal
      subst e
      obtain ⟨T, hT⟩ : ∃ T, T = (P.map fun x => growN x p e q).foldl VS.putN S := ⟨_, rfl⟩
      have hTm : ManyS T (N + 8) := by rw [hT]; exact ((many_puts (S := S) (P.map fun x => growN x p e q) HM.out).more (by rw [List.length_map]; have := HN.out; omega))
      have hTW : T.W = S.W := by rw [hT]; exact putNs_W _ _
      rw [← hT] at hrs
      have HE := Lib.hid (show RefS wr X x pp qq r a T (N + 8) ∧ ManyS T (N + 8) ∧ T.W = S.W ∧ Touch (fun k => k = qq ∨ k = r) w wr from
        ⟨hrs.more (by omega), hTm, hTW, (Touch.of_below (F := fun k => k = qq ∨ k = r) HB1.out).trans htw⟩)
      have HT := Lib.hid hT
      clear hT hTm hTW
      clear hrs htw hal HJ
      obtain ⟨bw, hbw⟩ : ∃ bw, bw = warnA P p e q := ⟨_, rfl⟩
      rw [← hbw]
      have HBW := Lib.hid hbw
      clear hbw
      go_wp2_with fail
      go_ret2
      have hT := HT.out
      subst hT
      exact ⟨by have h := HBW.out; subst h; rfl, HE.out⟩
end
end Go.Proofs.YtlcbmobdokicaaaGreat
