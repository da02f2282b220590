/-
  The texts ChaC, ChaD joined. Conditions: those that each part says at its head.
-/
import Derived.Test.YtccibahlcpkiaaaGreatChaA
import Derived.Test.YtccibahlcpkiaaaGreatChaB
import Derived.Test.YtccibahlcpkiaaaGreatCodF
import Derived.Test.YtccibahlcpkiaaaGreatViewN
import Derived.Test.YtccibahlcpkiaaaGreatSeqA
import Derived.Deep.RegionHeld3
import Derived.Sort.OwnSortedInts

/-
  Contracts of chart.Funds, Fund and NewFund over a view in memory. Conditions: which number is an int, what a scan asks, a name of at most 2^47 bytes.
-/
namespace Go.Proofs.YtccibahlcpkiaaaGreat
open Go.RowKit Go.Maps
set_option maxRecDepth 100000
set_option linter.unusedVariables false

theorem keyLen1 (t n : Int) : (keyL t [n]).length = 5 := by unfold keyL; rw [tagL_length]; rfl
/-- A call of Key over a row of one int. -/
theorem kOne_any (t n : Int) (W : World) (g : Nat) (T : TypeId) (ht : 0 ≤ t ∧ t < 256) (h : W.heap[g]? = some (.cells #[.int .i64 n] T (0, 0))) (hn : -9223372036854775808 ≤ n ∧ n ≤ 9223372036854775807) :
    Calls Tryz.prog 28 #[.int .u8 t, .slice (some ⟨g, 0, none⟩) 1 1] W fun e w' => ∃ A c, e = .returned (.slice A 5 c) ∧ 5 ≤ c ∧ RB w' w'.heap.size A 5 (keyL t [n]) ∧ Below W.heap.size W w' := by
  have hr : RI W W.heap.size (some ⟨g, 0, none⟩) 1 [n] := by
    refine ⟨rfl, fun y hy => by obtain rfl := List.mem_singleton.1 hy; exact hn, fun _ => ⟨g, 0, rfl, (Array.getElem?_eq_some_iff.1 h).1, fun j hj => ?_⟩⟩
    rw [Nat.zero_add, cell_of_row W g j _ T (0, 0) h]
    obtain rfl : j = 0 := by simpa using hj
    rfl
  refine (kKey_any t _ 1 1 _ [n] W ht hr (Nat.le_refl _) (Nat.le_refl _) (by decide)).mono ?_
  rintro e w' ⟨u, rfl, ho⟩
  obtain ⟨A, c, rfl, h1, h2⟩ := ho.read (tagL_bytes ht _)
  have e5 := keyLen1 t n
  rw [e5] at h1 h2 ⊢
  exact ⟨A, c, rfl, h1, h2, ho.2⟩
theorem RI.own_ {w w' : World} {u : Value} {l : List Int} (h : w'.ownsRow w.heap.size 3 1 u l.length (l.map (Value.int .i64))) (hl : ∀ x ∈ l, -9223372036854775808 ≤ x ∧ x ≤ 9223372036854775807) : ∃ A c, u = .slice A l.length c ∧ l.length ≤ c ∧ RI w' w'.heap.size A l.length l := by
  obtain ⟨A, c, rfl, hc⟩ := int_own_shape h
  exact ⟨A, c, rfl, hc, (RI.of_own h hl).1⟩
/-- The funds of a view. -/
def fundsL (S : VS) : List Int := numsK ((S.scan (tx [70])).map kvOf)
section
variable {w w' : World} {X : Nat → Prop} {v m c : Nat} {S : VS}
theorem ViewAt.scans (h : ViewAt w X v m c S) (hS : ScanOk S) (t : Int) : ScansAt w v t ((S.scan (tx [t])).map kvOf) :=
  fun W A k hb hr => vScan_any (h.below hb) hS.wf hS.wk hS.cf hS.ck hr (Nat.le_refl _)
theorem scan_fits (S : VS) (hS : ScanOk S) (x : Txt) : ((S.scan x).map kvOf).length ≤ 4294967296 := by
  rw [List.length_map]; have := scan_len S x; have := hS.wf; have := hS.cf; omega
theorem cNumbers_any (h : ViewAt w X v m c S) (hS : ScanOk S) {t : Int} (ht : 0 ≤ t ∧ t < 256) :
    Calls Tryz.prog 49 #[.pointer (some ⟨v, 0, none⟩), .int .u8 t] w fun e w' => ∃ u, e = .returned u ∧ w'.ownsRow w.heap.size 3 1 u (numsK ((S.scan (tx [t])).map kvOf)).length ((numsK ((S.scan (tx [t])).map kvOf)).map (Value.int .i64)) ∧ Below w.heap.size w w' :=
  cNumbers_of (h.scans hS t) ht (scan_fits S hS _) kv_bytes
set_option maxHeartbeats 400000 in
theorem cFunds_any (h : ViewAt w X v m c S) (hS : ScanOk S) :
    Calls Tryz.prog 26 #[.pointer (some ⟨v, 0, none⟩)] w fun e w' => ∃ A c, e = .returned (.slice A (fundsL S).length c) ∧ (fundsL S).length ≤ c ∧ RI w' w'.heap.size A (fundsL S).length (fundsL S) ∧ Below w.heap.size w w' := by
  have HN := Lib.hid (cNumbers_any h hS (t := 70) (by omega))
  have HI := Lib.hid (numsK_ints (kv_bytes (L := S.scan (tx [70]))))
  unfold fundsL
  generalize numsK ((S.scan (tx [70])).map kvOf) = l at HN HI ⊢
  clear h hS
  go_enter Tryz.func26, Tryz.ntmps26
  go_wp2_with fail
  refine HN.out.mono ?_
  rintro e w1 ⟨u, rfl, ho, hb⟩
  obtain ⟨A, c, rfl, hc, hr⟩ := RI.own_ ho HI.out
  have HE := Lib.hid (And.intro hc (And.intro hr hb))
  clear ho hb hc hr HN
  go_wp2
  go_ret
  exact ⟨A, c, rfl, HE.out⟩
set_option maxHeartbeats 1600000 in
theorem cFund_any (h : ViewAt w X v m c S) (f : Int) (hf : -9223372036854775808 ≤ f ∧ f ≤ 9223372036854775807) :
    Calls Tryz.prog 25 #[.pointer (some ⟨v, 0, none⟩), .int .i64 f] w fun e w' => e = .returned (.tuple #[.string (strOfNums ((S.now (tx (keyL 70 [f]))).getD [])), .bool (S.now (tx (keyL 70 [f]))).isSome]) ∧ Below w.heap.size w w' := by
  have hb1 : Below w.heap.size w (w.alloc (.cells #[.int .i64 f] 3)) := (Below.refl _ _).alloc (Nat.le_refl _) _
  have HK := Lib.hid (kOne_any 70 f (w.alloc (.cells #[.int .i64 f] 3)) w.heap.size 3 (by omega) (heap_alloc_new w _) hf)
  have HV := Lib.hid (h.below hb1)
  have HB := Lib.hid hb1
  obtain ⟨st, hst⟩ : ∃ st, st = strOfNums ((S.now (tx (keyL 70 [f]))).getD []) := ⟨_, rfl⟩
  rw [← hst]
  have HST := Lib.hid hst
  clear h hb1 hst
  generalize hbs : (S.now (tx (keyL 70 [f]))).isSome = bs
  have HBS := Lib.hid hbs
  clear hbs
  go_enter Tryz.func25, Tryz.ntmps25
  go_wp2_with fail
  refine HK.out.mono ?_
  rintro e w2 ⟨A, k, rfl, hk, hr, hb2⟩
  have HG := Lib.hid (vGet_any (k := k) (HV.out.below hb2) hr (Nat.le_refl _) (by decide))
  have HB2 := Lib.hid (HB.out.trans (hb2.mono HB.out.size))
  rw [HBS.out] at HG
  clear hr hb2 HK HV HB
  go_wp2_with fail
  refine HG.out.mono ?_
  rintro e w3 ⟨u, rfl, hs, hb3⟩
  obtain ⟨A3, n3, k3, rfl, _, _, hr3, _⟩ := hs
  have hconv := hr3.conv k3
  rw [← HST.out] at hconv
  have HE := Lib.hid (HB2.out.trans (hb3.mono HB2.out.size))
  clear hr3 hb3 HG HB2
  go_wp2_with fail
  go_ret2
  exact ⟨rfl, HE.out⟩
/-- What NewFund answers, and makes. -/
def newFundE (S : VS) (f : Int) (x : Txt) : Int := if (fundB f && nameB x) = true then (if (S.now (tx (keyL 70 [f]))).isSome = true then 8 else if 40 ≤ (fundsL S).length then 11 else 0) else 1
def newFund (S : VS) (f : Int) (x : Txt) : VS := if newFundE S f x = 0 then S.put (tx (keyL 70 [f])) (by_ x) else S
theorem name_len {x : Txt} (h : nameB x = true) : 1 ≤ x.length ∧ x.length ≤ 20 := by
  unfold nameB at h
  simp only [Bool.and_eq_true, decide_eq_true_eq] at h
  exact h.1
theorem putE_fund (f : Int) {x : Txt} (h : nameB x = true) : putE (keyL 70 [f]) (by_ x) = 0 := by
  have := name_len h
  unfold putE
  rw [keyLen1, by_length]
  exact if_neg (by rintro (a | a | a) <;> omega)
set_option maxHeartbeats 3200000 in
theorem newFund_any (h : ViewAt w X v m c S) (hS : ScanOk S) (f : Int) (hf : -9223372036854775808 ≤ f ∧ f ≤ 9223372036854775807) (x : Txt) (hx : x.length ≤ 140737488355328) :
    Calls Tryz.prog 9 #[.pointer (some ⟨v, 0, none⟩), .int .i64 f, encStr x] w fun e w' => e = .returned (.int .i64 (newFundE S f x)) ∧ ViewAt w' X v m c (newFund S f x) ∧ Touch (fun k => k = c) w w' := by
  have HF := Lib.hid (fund_any f w)
  have HN := Lib.hid (cName_any x hx w)
  have HSAME := Lib.hid (show ∀ W, Below w.heap.size w W → ViewAt W X v m c S ∧ Touch (fun k => k = c) w W from fun W hb => ⟨h.below hb, Touch.of_below hb⟩)
  obtain ⟨st, hst⟩ : ∃ st, st = encStr x := ⟨_, rfl⟩
  rw [← hst] at HN ⊢
  cases hfb : fundB f with
  | false =>
    have e1 : newFundE S f x = 1 := by unfold newFundE; rw [hfb]; rfl
    have e2 : newFund S f x = S := by unfold newFund; rw [e1]; rfl
    rw [hfb] at HF
    rw [e1, e2]
    clear h e1 e2 hfb hst HN
    go_enter Tryz.func9, Tryz.ntmps9
    go_wp2_with fail
    refine HF.out.mono ?_
    rintro e w' ⟨rfl, rfl⟩
    go_wp2_with fail
    go_ret
    exact ⟨rfl, HSAME.out _ (Below.refl _ _)⟩
  | true =>
  rw [hfb] at HF
  cases hnb : nameB x with
  | false =>
    have e1 : newFundE S f x = 1 := by unfold newFundE; rw [hfb, hnb]; rfl
    have e2 : newFund S f x = S := by unfold newFund; rw [e1]; rfl
    rw [hnb] at HN
    rw [e1, e2]
    clear h e1 e2 hfb hst hnb
    go_enter Tryz.func9, Tryz.ntmps9
    go_wp2_with fail
    refine HF.out.mono ?_
    rintro e w' ⟨rfl, rfl⟩
    go_wp2_with fail
    refine HN.out.mono ?_
    rintro e w' ⟨rfl, hb⟩
    have HB := Lib.hid hb
    clear hb
    go_wp2_with fail
    go_ret
    exact ⟨rfl, HSAME.out _ HB.out⟩
  | true =>
  rw [hnb] at HN
  have HFD := Lib.hid (show ∀ W, Below w.heap.size w W → Calls Tryz.prog 25 #[.pointer (some ⟨v, 0, none⟩), .int .i64 f] W fun e w' => e = .returned (.tuple #[.string (strOfNums ((S.now (tx (keyL 70 [f]))).getD [])), .bool (S.now (tx (keyL 70 [f]))).isSome]) ∧ Below W.heap.size W w' from fun W hb => cFund_any (h.below hb) f hf)
  generalize strOfNums ((S.now (tx (keyL 70 [f]))).getD []) = nm at HFD
  cases his : (S.now (tx (keyL 70 [f]))).isSome with
  | true =>
    have e1 : newFundE S f x = 8 := by unfold newFundE; rw [hfb, hnb, his]; rfl
    have e2 : newFund S f x = S := by unfold newFund; rw [e1]; rfl
    rw [e1, e2]
    rw [his] at HFD
    clear h e1 e2 hfb hst hnb his
    go_enter Tryz.func9, Tryz.ntmps9
    go_wp2_with fail
    refine HF.out.mono ?_
    rintro e w' ⟨rfl, rfl⟩
    go_wp2_with fail
    refine HN.out.mono ?_
    rintro e w1 ⟨rfl, hb⟩
    have HB := Lib.hid hb
    clear hb
    go_wp2_with fail
    refine (HFD.out _ HB.out).mono ?_
    rintro e w2 ⟨rfl, hb⟩
    have HE := Lib.hid (HB.out.trans (hb.mono HB.out.size))
    clear hb HB
    go_wp2_with fail
    go_ret
    exact ⟨rfl, HSAME.out _ HE.out⟩
  | false =>
  rw [his] at HFD
  have HFS := Lib.hid (show ∀ W, Below w.heap.size w W → Calls Tryz.prog 26 #[.pointer (some ⟨v, 0, none⟩)] W fun e w' => ∃ A c, e = .returned (.slice A (fundsL S).length c) ∧ (fundsL S).length ≤ c ∧ RI w' w'.heap.size A (fundsL S).length (fundsL S) ∧ Below W.heap.size W w' from fun W hb => cFunds_any (h.below hb) hS)
  by_cases h40 : 40 ≤ (fundsL S).length
  · have e1 : newFundE S f x = 11 := by unfold newFundE; rw [hfb, hnb, his, if_pos h40]; rfl
    have e2 : newFund S f x = S := by unfold newFund; rw [e1]; rfl
    rw [e1, e2]
    generalize fundsL S = fs at HFS h40
    obtain ⟨N, hN⟩ : ∃ N, N = fs.length := ⟨_, rfl⟩
    rw [← hN] at HFS h40
    clear h e1 e2 hfb hst hnb his hN
    go_enter Tryz.func9, Tryz.ntmps9
    go_wp2_with fail
    refine HF.out.mono ?_
    rintro e w' ⟨rfl, rfl⟩
    go_wp2_with fail
    refine HN.out.mono ?_
    rintro e w1 ⟨rfl, hb⟩
    have HB := Lib.hid hb
    clear hb
    go_wp2_with fail
    refine (HFD.out _ HB.out).mono ?_
    rintro e w2 ⟨rfl, hb⟩
    have HB2 := Lib.hid (HB.out.trans (hb.mono HB.out.size))
    clear hb HB
    go_wp2_with fail
    refine (HFS.out _ HB2.out).mono ?_
    rintro e w3 ⟨A, k, rfl, _, _, hb⟩
    have HE := Lib.hid (HB2.out.trans (hb.mono HB2.out.size))
    clear hb HB2
    go_wp2_with fail
    go_ret
    exact ⟨rfl, HSAME.out _ HE.out⟩
  · have e1 : newFundE S f x = 0 := by unfold newFundE; rw [hfb, hnb, his, if_neg h40]; rfl
    have e2 : newFund S f x = S.putR (keyL 70 [f]) (by_ x) := by unfold newFund VS.putR; rw [e1, putE_fund f hnb]
    have e3 := putE_fund f hnb
    have HPUT := Lib.hid (show ∀ W A A' k k' n', Below w.heap.size w W → RB W W.heap.size A 5 (keyL 70 [f]) → RB W W.heap.size A' n' (by_ x) → n' ≤ maxLen → Calls Tryz.prog 27 #[.pointer (some ⟨v, 0, none⟩), .slice A 5 k, .slice A' n' k'] W fun e w' => e = .returned (.int .i64 0) ∧ ViewAt w' X v m c (S.putR (keyL 70 [f]) (by_ x)) ∧ Touch (fun k => k = c) W w' from fun W A A' k k' n' hb hr hr' hn' => by
      have := vPut_any (k := k) (k' := k') (h.below hb) hr (Nat.le_refl _) (by decide) hr' (Nat.le_refl _) hn' (Nat.lt_of_le_of_lt hS.cf (by unfold maxLen; omega))
      rw [e3] at this
      exact this)
    rw [e1, e2]
    have hNlt : ¬ (40 : Int) ≤ ((fundsL S).length : Int) := by omega
    generalize fundsL S = fs at HFS hNlt
    obtain ⟨N, hN⟩ : ∃ N, N = fs.length := ⟨_, rfl⟩
    rw [← hN] at HFS hNlt
    have HST := Lib.hid hst
    clear h e1 e2 e3 hfb hst hnb his hN h40
    go_enter Tryz.func9, Tryz.ntmps9
    go_wp2_with fail
    refine HF.out.mono ?_
    rintro e w' ⟨rfl, rfl⟩
    go_wp2_with fail
    refine HN.out.mono ?_
    rintro e w1 ⟨rfl, hb⟩
    have HB := Lib.hid hb
    clear hb
    go_wp2_with fail
    refine (HFD.out _ HB.out).mono ?_
    rintro e w2 ⟨rfl, hb⟩
    have HB2 := Lib.hid (HB.out.trans (hb.mono HB.out.size))
    clear hb HB
    go_wp2_with fail
    refine (HFS.out _ HB2.out).mono ?_
    rintro e w3 ⟨A, k, rfl, _, _, hb⟩
    have HB3 := Lib.hid (HB2.out.trans (hb.mono HB2.out.size))
    clear hb HB2
    have hba : Below w3.heap.size w3 (w3.alloc (.cells #[.int .i64 f] 3)) := (Below.refl _ _).alloc (Nat.le_refl _) _
    have HK := Lib.hid (kOne_any 70 f (w3.alloc (.cells #[.int .i64 f] 3)) w3.heap.size 3 (by omega) (heap_alloc_new w3 _) hf)
    have HBA := Lib.hid (HB3.out.trans (hba.mono HB3.out.size))
    clear hba
    go_wp2_with fail
    refine HK.out.mono ?_
    rintro e w4 ⟨A4, k4, rfl, hk4, hr4, hb4⟩
    have hb04 := HBA.out.trans (hb4.mono HBA.out.size)
    obtain ⟨u5, w5, hconv, hsv5, hb5⟩ := conv_txt w4 x hx
    obtain ⟨A5, n5, k5, rfl, hk5, hn5, hr5, _⟩ := hsv5
    have hb05 := hb04.trans (hb5.mono hb04.size)
    have HQ := Lib.hid (HPUT.out w5 A4 A5 k4 k5 n5 hb05 ((hr4.below hb5).more hb5.size) hr5 (by unfold maxLen; omega))
    have HB5 := Lib.hid hb05
    rw [← HST.out] at hconv
    clear hr4 hb4 hb04 hb5 hr5 hb05 HK HBA
    go_wp2_with fail
    refine HQ.out.mono ?_
    rintro e w6 ⟨rfl, hv6, ht6⟩
    have HE := Lib.hid (And.intro hv6 ((Touch.of_below HB5.out).trans ht6))
    clear hv6 ht6
    go_wp2_with fail
    go_ret
    exact ⟨rfl, HE.out⟩
end
end Go.Proofs.YtccibahlcpkiaaaGreat

/-
  Contracts of chart.made, Object, Objects and NewObject over a view in memory in which no number stands behind the tag of objects but one that may be made. Conditions: which number is an int, what a scan asks.
-/
namespace Go.Proofs.YtccibahlcpkiaaaGreat
open Go.RowKit Go.Maps
set_option maxRecDepth 100000
set_option linter.unusedVariables false

/-- The objects of a view, and that all of them may be made. -/
def objsL (S : VS) : List Int := numsK ((S.scan (tx [79])).map kvOf)
def ownObj (n : Int) : Bool := objB n && !fixedB n
section
variable {w w' : World} {X : Nat → Prop} {v m c : Nat} {S : VS}
set_option maxHeartbeats 1600000 in
theorem cObject_any (h : ViewAt w X v m c S) (n : Int) (hn : -9223372036854775808 ≤ n ∧ n ≤ 9223372036854775807) :
    Calls Tryz.prog 60 #[.pointer (some ⟨v, 0, none⟩), .int .i64 n] w fun e w' => e = .returned (.bool (fixedB n || (S.now (tx (keyL 79 [n]))).isSome)) ∧ Below w.heap.size w w' := by
  have HF := Lib.hid (fixed_any n w)
  have hb1 : Below w.heap.size w (w.alloc (.cells #[.int .i64 n] 3)) := (Below.refl _ _).alloc (Nat.le_refl _) _
  have HK := Lib.hid (kOne_any 79 n (w.alloc (.cells #[.int .i64 n] 3)) w.heap.size 3 (by omega) (heap_alloc_new w _) hn)
  have HV := Lib.hid (h.below hb1)
  have HB := Lib.hid hb1
  generalize hbs : (S.now (tx (keyL 79 [n]))).isSome = bs
  have HBS := Lib.hid hbs
  clear h hb1 hbs
  generalize fixedB n = fb at HF ⊢
  cases fb with
  | true =>
    go_enter Tryz.func60, Tryz.ntmps60
    go_wp2_with fail
    refine HF.out.mono ?_
    rintro e w1 ⟨rfl, rfl⟩
    go_wp2_with fail
    go_ret
    exact ⟨rfl, Below.refl _ _⟩
  | false =>
    go_enter Tryz.func60, Tryz.ntmps60
    go_wp2_with fail
    refine HF.out.mono ?_
    rintro e w1 ⟨rfl, rfl⟩
    go_wp2_with fail
    refine HK.out.mono ?_
    rintro e w2 ⟨A, k, rfl, hk, hr, hb2⟩
    have HG := Lib.hid (vGet_any (k := k) (HV.out.below hb2) hr (Nat.le_refl _) (by decide))
    have HB2 := Lib.hid (HB.out.trans (hb2.mono HB.out.size))
    rw [HBS.out] at HG
    clear hr hb2 HK HV HB
    go_wp2_with fail
    refine HG.out.mono ?_
    rintro e w3 ⟨u, rfl, hs, hb3⟩
    have HE := Lib.hid (HB2.out.trans (hb3.mono HB2.out.size))
    clear hs hb3 HG HB2
    go_wp2_with fail
    go_ret
    exact ⟨rfl, HE.out⟩
/-- What NewObject answers, and makes. -/
def newObjE (S : VS) (n : Int) : Int := if objB n = true then (if (fixedB n || (S.now (tx (keyL 79 [n]))).isSome) = true then 8 else if 60 ≤ (objsL S).length then 11 else 0) else 1
def newObj (S : VS) (n : Int) : VS := if newObjE S n = 0 then S.put (tx (keyL 79 [n])) [] else S
theorem putE_obj (n : Int) : putE (keyL 79 [n]) [] = 0 := by
  unfold putE
  rw [keyLen1]
  exact if_neg (by simp)
end
end Go.Proofs.YtccibahlcpkiaaaGreat
