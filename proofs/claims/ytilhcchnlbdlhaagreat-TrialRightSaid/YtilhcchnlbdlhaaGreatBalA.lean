/-
  The texts AmtV, BalP, BalA joined. Conditions: those that each part says at its head.
-/
import Derived.Test.YtilhcchnlbdlhaaGreatBase
import Derived.Test.YtilhcchnlbdlhaaGreatIntApp
import Derived.Test.YtilhcchnlbdlhaaGreatSeqP
import Derived.Test.YtilhcchnlbdlhaaGreatChaA
import Derived.Test.YtilhcchnlbdlhaaGreatViewC
import Derived.Deep.RegionHeld3

/-
  Contracts of amount.Fits, Right, Add and Sum, under names of their own (as XAmtA, XAmtB say them). No condition but that lengths are ints.
-/
namespace Go.Proofs.YtilhcchnlbdlhaaGreat
open Go.RowKit
set_option maxRecDepth 100000
set_option linter.unusedVariables false

/-- An int. -/
def AmtInt (n : Int) : Prop := -9223372036854775808 ≤ n ∧ n ≤ 9223372036854775807
theorem AmtInt.of_wf {n : Int} (h : (Lit.int .i64 n).wf = true) : AmtInt n := by
  simp [Lit.wf, IntKind.min, IntKind.max, IntKind.signed, IntKind.bits] at h
  exact ⟨by omega, by omega⟩
/-- May n be a total? -/
def amtFitsB (n : Int) : Bool := decide (-4611686018427387904 ≤ n) && decide (n ≤ 4611686018427387904)
/-- May n be asked for? -/
def amtRightB (n : Int) : Bool := decide (1 ≤ n) && decide (n ≤ 9007199254740992)
/-- Two together, and the error. -/
def amtAddR (a b : Int) : Int × Int := if (amtFitsB a && amtFitsB b && amtFitsB (a + b)) = true then (a + b, 0) else (0, 9)

theorem amtFits_iff (n : Int) : amtFitsB n = true ↔ -4611686018427387904 ≤ n ∧ n ≤ 4611686018427387904 := by simp [amtFitsB]

set_option maxHeartbeats 400000 in
theorem amtFits_any (a : Int) (w : World) : Calls Tryz.prog 128 #[.int .i64 a] w fun e w' => e = .returned (.bool (amtFitsB a)) ∧ w = w' := by
  unfold amtFitsB
  by_cases h : -4611686018427387904 ≤ a
  · go_enter Tryz.func128, Tryz.ntmps128
    go_wp2
    go_ret
    simp [h]
  · go_enter Tryz.func128, Tryz.ntmps128
    go_wp2
    go_ret
    simp; omega
/-- The sum of two that fit wraps round to what fits just if it fits. -/
theorem amtSum_wraps {a b : Int} (ha : amtFitsB a = true) (hb : amtFitsB b = true) : amtFitsB (IntKind.i64.wrap (a + b)) = amtFitsB (a + b) ∧ (amtFitsB (a + b) = true → IntKind.i64.wrap (a + b) = a + b) := by
  rw [amtFits_iff] at ha hb
  have hw : IntKind.i64.wrap (a + b) = a + b ∨ (a + b = 9223372036854775808 ∧ IntKind.i64.wrap (a + b) = -9223372036854775808) := by
    rw [IntKind.wrap_i64]
    omega
  rcases hw with e | ⟨e, f⟩
  · rw [e]; exact ⟨rfl, fun _ => rfl⟩
  · rw [f, e]; exact ⟨by decide, by decide⟩

set_option maxHeartbeats 800000 in
theorem amtAdd_any (a b : Int) (w : World) : Calls Tryz.prog 104 #[.int .i64 a, .int .i64 b] w fun e w' => e = .returned (.tuple #[.int .i64 (amtAddR a b).1, .int .i64 (amtAddR a b).2]) ∧ w = w' := by
  unfold amtAddR
  cases ha : amtFitsB a
  · simp only [Bool.false_and, Bool.false_eq_true, if_false]
    go_enter Tryz.func104, Tryz.ntmps104
    go_wp2_with (refine (amtFits_any _ _).mono ?_; rw [ha]; rintro e w' ⟨rfl, rfl⟩)
    go_ret2
    exact ⟨rfl, rfl⟩
  · cases hb : amtFitsB b
    · simp only [Bool.false_and, Bool.and_false, Bool.false_eq_true, if_false]
      go_enter Tryz.func104, Tryz.ntmps104
      go_wp2_with fail
      refine (amtFits_any _ _).mono ?_; rw [ha]; rintro e w' ⟨rfl, rfl⟩
      go_wp2_with fail
      refine (amtFits_any _ _).mono ?_; rw [hb]; rintro e w' ⟨rfl, rfl⟩
      go_wp2_with fail
      go_ret2
      exact ⟨rfl, rfl⟩
    · obtain ⟨hw, hv⟩ := amtSum_wraps ha hb
      obtain ⟨s, hs⟩ : ∃ s, IntKind.i64.wrap (a + b) = s := ⟨_, rfl⟩
      rw [hs] at hw hv
      cases hc : amtFitsB (a + b)
      · rw [hc] at hw
        clear hv
        simp only [Bool.and_false, Bool.false_eq_true, if_false]
        go_enter Tryz.func104, Tryz.ntmps104
        go_wp2_with fail
        refine (amtFits_any _ _).mono ?_; rw [ha]; rintro e w' ⟨rfl, rfl⟩
        go_wp2_with fail
        refine (amtFits_any _ _).mono ?_; rw [hb]; rintro e w' ⟨rfl, rfl⟩
        go_wp2_with fail
        refine (amtFits_any _ _).mono ?_; rw [hw]; rintro e w' ⟨rfl, rfl⟩
        go_wp2_with fail
        go_ret2
        exact ⟨rfl, rfl⟩
      · rw [hc] at hw
        obtain rfl : s = a + b := hv hc
        clear hv
        simp only [Bool.and_self, if_true]
        go_enter Tryz.func104, Tryz.ntmps104
        go_wp2_with fail
        refine (amtFits_any _ _).mono ?_; rw [ha]; rintro e w' ⟨rfl, rfl⟩
        go_wp2_with fail
        refine (amtFits_any _ _).mono ?_; rw [hb]; rintro e w' ⟨rfl, rfl⟩
        go_wp2_with fail
        refine (amtFits_any _ _).mono ?_; rw [hw]; rintro e w' ⟨rfl, rfl⟩
        go_wp2_with fail
        go_ret2
        exact ⟨rfl, rfl⟩


/-- All together, from s on, one by one; the error. -/
def amtSumR (s : Int) : List Int → Int × Int
  | [] => (s, 0)
  | n :: l => if (amtAddR s n).2 = 0 then amtSumR (amtAddR s n).1 l else (0, (amtAddR s n).2)
theorem amtSumR_drop {l : List Int} {k : Nat} (h : k < l.length) (s : Int) : amtSumR s (l.drop k) = if (amtAddR s (l[k]?.getD 0)).2 = 0 then amtSumR (amtAddR s (l[k]?.getD 0)).1 (l.drop (k + 1)) else (0, (amtAddR s (l[k]?.getD 0)).2) := by
  rw [List.drop_eq_getElem_cons h, List.getElem?_eq_getElem h]
  rfl

end Go.Proofs.YtilhcchnlbdlhaaGreat

/-
  Balances over plain lists: what adding to one makes of what stands there, and that what was added is taken off by its contrary, the last first. No program; no condition beyond what each says.
-/
namespace Go.Proofs.YtilhcchnlbdlhaaGreat
open Go.RowKit Go.Maps
set_option maxRecDepth 100000
set_option linter.unusedVariables false

/-- A balance's key. -/
abbrev bKy (y f o : Int) : Txt := tx (keyL 66 [y, f, o])
theorem bKyLen (y f o : Int) : (keyL 66 [y, f, o]).length = 13 := by unfold keyL; rw [tagL_length]; rfl
theorem bKy_len (y f o : Int) : (bKy y f o).length = 13 := by rw [tx_length, bKyLen]
def FitsI (n : Int) : Prop := -4611686018427387904 ≤ n ∧ n ≤ 4611686018427387904
/-- What setting a balance leaves; what adding to it does. -/
def VS.setB (S : VS) (x : Txt) (n : Int) : VS := if n = 0 then S.del x else S.put x (packN 8 [n])
def VS.addB (S : VS) (x : Txt) (a : Int) : VS := if (amtAddR (seqV (S.now x)) a).2 = 0 then S.setB x (amtAddR (seqV (S.now x)) a).1 else S
/-- What stands behind j calls, from nothing on: numbers that fit, none of them nought. -/
structure BalS (S : VS) (j : Nat) : Prop where
  ok : S.Ok
  w : S.W = []
  c : S.C.length ≤ j
  ck : ∀ p ∈ S.C, p.1.length ≤ 60
  num : ∀ x v, S.now x = some v → ∃ n, n ≠ 0 ∧ FitsI n ∧ v = packN 8 [n]
theorem amtAdd_yes {b a : Int} (h : (amtAddR b a).2 = 0) : FitsI b ∧ FitsI a ∧ FitsI (b + a) ∧ (amtAddR b a).1 = b + a := by
  unfold amtAddR at h ⊢
  split
  · rename_i hh
    simp only [Bool.and_eq_true, amtFits_iff] at hh
    exact ⟨hh.1.1, hh.1.2, hh.2, rfl⟩
  · rename_i hh
    rw [if_neg hh] at h
    exact absurd h (by decide)
theorem amtAdd_fits {b a : Int} (h1 : FitsI b) (h2 : FitsI a) (h3 : FitsI (b + a)) : amtAddR b a = (b + a, 0) := by
  unfold amtAddR
  rw [if_pos]
  simp only [Bool.and_eq_true, amtFits_iff]
  exact ⟨⟨h1, h2⟩, h3⟩
section
variable {S : VS} {j : Nat}
theorem BalS.start : BalS ⟨[], []⟩ 0 := ⟨⟨List.Pairwise.nil, List.Pairwise.nil⟩, rfl, Nat.le_refl _, (fun p (h : p ∈ ([] : List (Txt × Option (List Int)))) => absurd h List.not_mem_nil), fun x v h => by cases h⟩
theorem BalS.more (h : BalS S j) : BalS S (j + 1) := ⟨h.ok, h.w, Nat.le_succ_of_le h.c, h.ck, h.num⟩
theorem BalS.fits (h : BalS S j) (x : Txt) : FitsI (seqV (S.now x)) := by
  cases e : S.now x with
  | none => exact ⟨by decide, by decide⟩
  | some v =>
    obtain ⟨n, _, hf, rfl⟩ := h.num x v e
    rw [seqV_pack ⟨by have := hf.1; omega, by have := hf.2; omega⟩]
    exact hf
theorem BalS.none_ (h : BalS S j) {x : Txt} (h0 : seqV (S.now x) = 0) : S.now x = none := by
  cases e : S.now x with
  | none => rfl
  | some v =>
    obtain ⟨n, hn, hf, rfl⟩ := h.num x v e
    rw [e, seqV_pack ⟨by have := hf.1; omega, by have := hf.2; omega⟩] at h0
    exact absurd h0 hn
theorem BalS.set (h : BalS S j) {x : Txt} (hx : x.length ≤ 60) {n : Int} (hn : FitsI n) : BalS (S.setB x n) (j + 1) ∧ ∀ y, seqV ((S.setB x n).now y) = if y = x then n else seqV (S.now y) := by
  unfold VS.setB
  split
  · rename_i h0
    subst h0
    refine ⟨⟨h.ok.del _, h.w, Nat.le_trans (setT_len _ _ _) (Nat.succ_le_succ h.c), fun p hp => ?_, fun y v hv => ?_⟩, fun y => ?_⟩
    · rcases mem_setT hp with rfl | hp
      · exact hx
      · exact h.ck p hp
    · rw [h.ok.now_del] at hv
      split at hv
      · cases hv
      · exact h.num y v hv
    · rw [h.ok.now_del]
      by_cases e : y = x
      · rw [if_pos e.symm, if_pos e]; rfl
      · rw [if_neg (fun q => e q.symm), if_neg e]
  · rename_i h0
    refine ⟨⟨h.ok.put _ _, h.w, Nat.le_trans (setT_len _ _ _) (Nat.succ_le_succ h.c), fun p hp => ?_, fun y v hv => ?_⟩, fun y => ?_⟩
    · rcases mem_setT hp with rfl | hp
      · exact hx
      · exact h.ck p hp
    · rw [h.ok.now_put] at hv
      split at hv
      · cases hv
        exact ⟨n, h0, hn, rfl⟩
      · exact h.num y v hv
    · rw [h.ok.now_put]
      by_cases e : y = x
      · rw [if_pos e.symm, if_pos e, seqV_pack ⟨by have := hn.1; omega, by have := hn.2; omega⟩]
      · rw [if_neg (fun q => e q.symm), if_neg e]
theorem BalS.add (h : BalS S j) {x : Txt} (hx : x.length ≤ 60) (a : Int) : BalS (S.addB x a) (j + 1) := by
  unfold VS.addB
  split
  · rename_i h0
    obtain ⟨_, _, h3, h4⟩ := amtAdd_yes h0
    rw [h4]
    exact (h.set hx h3).1
  · exact h.more
theorem BalS.added (h : BalS S j) {x : Txt} (hx : x.length ≤ 60) {a : Int} (h0 : (amtAddR (seqV (S.now x)) a).2 = 0) (y : Txt) : seqV ((S.addB x a).now y) = if y = x then seqV (S.now x) + a else seqV (S.now y) := by
  unfold VS.addB
  obtain ⟨_, _, h3, h4⟩ := amtAdd_yes h0
  rw [if_pos h0, h4, (h.set hx h3).2]
end
/-- What was done, the last first, and what stands then. -/
def Chain : List (Txt × Int) → (Txt → Int) → Prop
  | [], V => ∀ x, V x = 0
  | (x, a) :: r, V => FitsI a ∧ FitsI (V x) ∧ ∃ V', Chain r V' ∧ FitsI (V' x) ∧ ∀ y, V y = if y = x then V' x + a else V' y
theorem chain_same : ∀ {l : List (Txt × Int)} {V U : Txt → Int}, Chain l V → (∀ x, U x = V x) → Chain l U
  | [], V, U, h, e => fun x => (e x).trans (h x)
  | (x, a) :: r, V, U, h, e => by
    obtain ⟨h1, h2, V', h3, h4, h5⟩ := h
    exact ⟨h1, by rw [e]; exact h2, V', h3, h4, fun y => (e y).trans (h5 y)⟩
theorem Chain.add {S : VS} {j : Nat} {l : List (Txt × Int)} (hc : Chain l (fun x => seqV (S.now x))) (h : BalS S j) {x : Txt} (hx : x.length ≤ 60) {a : Int} (h0 : (amtAddR (seqV (S.now x)) a).2 = 0) : Chain ((x, a) :: l) (fun y => seqV ((S.addB x a).now y)) := by
  obtain ⟨h1, h2, h3, h4⟩ := amtAdd_yes h0
  refine ⟨h2, ?_, _, hc, h1, fun y => h.added hx h0 y⟩
  show FitsI (seqV ((S.addB x a).now x))
  rw [h.added hx h0, if_pos rfl]
  exact h3
theorem Chain.back {S : VS} {j : Nat} {l : List (Txt × Int)} {x : Txt} {a : Int} (hc : Chain ((x, a) :: l) (fun x => seqV (S.now x))) (h : BalS S j) (hx : x.length ≤ 60) : (amtAddR (seqV (S.now x)) (-a)).2 = 0 ∧ Chain l (fun y => seqV ((S.addB x (-a)).now y)) := by
  obtain ⟨h1, h2, V', h3, h4, h5⟩ := hc
  have e : seqV (S.now x) + -a = V' x := by
    have := h5 x
    rw [if_pos rfl] at this
    have this : seqV (S.now x) = V' x + a := this
    omega
  have h0 : (amtAddR (seqV (S.now x)) (-a)).2 = 0 := by
    rw [amtAdd_fits h2 ⟨by have := h1.2; omega, by have := h1.1; omega⟩ (by rw [e]; exact h4)]
  refine ⟨h0, chain_same h3 fun y => ?_⟩
  show seqV ((S.addB x (-a)).now y) = V' y
  rw [h.added hx h0, e]
  by_cases q : y = x
  · rw [if_pos q, q]
  · rw [if_neg q]
    have := h5 y
    rw [if_neg q] at this
    exact this
theorem Chain.done {S : VS} {j : Nat} (hc : Chain [] (fun x => seqV (S.now x))) (h : BalS S j) (x : Txt) : S.scan x = [] := by
  refine List.eq_nil_iff_forall_not_mem.2 fun p hp => ?_
  have h1 := ((scan_mem h.ok).1 hp).1
  rw [h.none_ (hc p.1)] at h1
  cases h1
theorem BalS.scanOk_w {S : VS} {j : Nat} (h : BalS S j) (hj : j ≤ 32767) : S.W.length ≤ 2147483647 ∧ (∀ p ∈ S.W, p.1.length ≤ 140737488355328) ∧ S.C.length ≤ 32767 ∧ ∀ p ∈ S.C, p.1.length ≤ 140737488355328 :=
  ⟨by rw [h.w]; decide, (fun p hp => by rw [h.w] at hp; cases hp), Nat.le_trans h.c hj, fun p hp => Nat.le_trans (h.ck p hp) (by decide)⟩
end Go.Proofs.YtilhcchnlbdlhaaGreat

/-
  Contracts of bal over a view in memory: the number that a value is, a balance's key, the balance itself, Get. Condition: which numbers are ints.
-/
namespace Go.Proofs.YtilhcchnlbdlhaaGreat
open Go.RowKit Go.Maps
set_option maxRecDepth 100000
set_option linter.unusedVariables false

abbrev I64 (n : Int) : Prop := -9223372036854775808 ≤ n ∧ n ≤ 9223372036854775807
/-- The number that a value is, and whether it is one. -/
def numB (b : List Int) : Int × Bool := if (unpackR b 1).2 = 0 then ((unpackR b 1).1[0]?.getD 0, true) else (0, false)
theorem numB_one (o : Option (List Int)) : (numB (o.getD [])).1 = seqV o := by
  cases o with
  | none => rfl
  | some b =>
    by_cases h : (unpackR b 1).2 = 0 <;> simp [numB, seqV, h]
set_option maxHeartbeats 1600000 in
theorem numberOf_any {w : World} {A : Option Addr} {n k B : Nat} {b : List Int} (hr : RB w B A n b) (hB : B ≤ w.heap.size) (hk : n ≤ k) (hn : n ≤ maxLen) :
    Calls Tryz.prog 122 #[.slice A n k] w fun e w' => e = .returned (.tuple #[.int .i64 (numB b).1, .bool (numB b).2]) ∧ Below w.heap.size w w' := by
  have HU := Lib.hid (fUnpack_any A n k B b 1 w hr hB hk hn (by omega) (by omega))
  unfold numB
  clear hr
  rcases unpack_one b with ⟨x, hx⟩ | ⟨en, hen, hx⟩
  · rw [hx] at HU
    rw [hx]
    clear hx
    go_enter Tryz.func122, Tryz.ntmps122
    go_wp2_with fail
    refine HU.out.mono ?_
    rintro e w3 ⟨A3, k3, c3, rfl, hk3, _, hr3, hb3⟩
    obtain rfl : 1 = k3 := hr3.len
    obtain ⟨bb, o, rfl, hbb, hc⟩ := hr3.2.2 (by simp)
    have c0 := hc 0 (by simp)
    have HE := Lib.hid hb3
    simp only [Nat.add_zero, List.getElem?_cons_zero, Option.getD_some] at c0
    clear HU hr3 hb3 hc
    go_wp2_with fail
    go_ret2
    exact ⟨rfl, HE.out⟩
  · rw [hx] at HU
    rw [hx]
    have he2 : (en != 0) = true := by simp [hen]
    rw [if_neg (show ¬ en = 0 from hen)]
    clear hx hen
    go_enter Tryz.func122, Tryz.ntmps122
    go_wp2_with fail
    refine HU.out.mono ?_
    rintro e w3 ⟨A3, k3, c3, rfl, hk3, _, hr3, hb3⟩
    have HE := Lib.hid hb3
    clear HU hr3 hb3
    go_wp2_with fail
    go_ret2
    exact ⟨rfl, HE.out⟩
set_option maxHeartbeats 400000 in
theorem balKey_any (A : Option Addr) (n c B : Nat) (l : List Int) (w : World) (hr : RI w B A n l) (hB : B ≤ w.heap.size) (hc : n ≤ c) (hm : n ≤ maxLen) :
    Calls Tryz.prog 93 #[.slice A n c] w fun e w' => ∃ u, e = .returned u ∧ OwnB w w' u (keyL 66 l) := by
  have HK := Lib.hid (kKey_any 66 A n c B l w (by omega) hr hB hc hm)
  clear hr
  go_enter Tryz.func93, Tryz.ntmps93
  go_wp2_with fail
  refine HK.out.mono ?_
  rintro e w2 ⟨u, rfl, ho⟩
  have HE := Lib.hid ho
  clear HK ho
  go_wp2
  go_ret
  exact ⟨_, rfl, HE.out⟩
section
variable {w w' : World} {X : Nat → Prop} {v m c : Nat} {S : VS}
set_option maxHeartbeats 1600000 in
theorem accKey_any (p : Value) (y f o : Int) (w : World) (hy : I64 y) (hf : I64 f) (ho : I64 o) :
    Calls Tryz.prog 129 #[.agg #[p, .int .i64 y, .int .i64 f, .int .i64 o]] w fun e w' => ∃ A c, e = .returned (.slice A 13 c) ∧ 13 ≤ c ∧ RB w' w'.heap.size A 13 (keyL 66 [y, f, o]) ∧ Below w.heap.size w w' := by
  have hb : Below w.heap.size w (((w.alloc (.cells #[p, .int .i64 y, .int .i64 f, .int .i64 o] 158)).alloc (.cells #[.int .i64 y, .int .i64 f, .int .i64 o] 3))) := ((Below.refl _ _).alloc (Nat.le_refl _) _).alloc (by simp) _
  have hz : (w.alloc (.cells #[p, .int .i64 y, .int .i64 f, .int .i64 o] 158)).heap.size = w.heap.size + 1 := by simp
  have hl := one_lit (w.alloc (.cells #[p, .int .i64 y, .int .i64 f, .int .i64 o] 158)) 3 [y, f, o] #[.int .i64 y, .int .i64 f, .int .i64 o] rfl (fun x hx => by
    simp only [List.mem_cons, List.not_mem_nil, or_false] at hx
    rcases hx with rfl | rfl | rfl
    · exact hy
    · exact hf
    · exact ho)
  rw [hz] at hl
  have HK := Lib.hid (balKey_any _ 3 3 _ [y, f, o] _ hl (by simp) (Nat.le_refl _) (by decide))
  have HB := Lib.hid hb
  clear hl hb
  go_enter Tryz.func129, Tryz.ntmps129
  go_wp2_with fail
  refine HK.out.mono ?_
  rintro e w2 ⟨u, rfl, ho⟩
  obtain ⟨A, c, rfl, h1, h2⟩ := ho.read (tagL_bytes (by omega) _)
  have HE := Lib.hid (And.intro h1 (And.intro h2 (HB.out.trans (ho.2.mono HB.out.size))))
  clear HK ho h1 h2 hz
  go_wp2
  go_ret
  have e5 := bKyLen y f o
  obtain ⟨h1, h2, h3⟩ := HE.out
  rw [e5] at h1 h2
  exact ⟨A, c, rfl, h1, h2, h3⟩
/-- An account's four cells in block g. -/
def AccAt (W : World) (g v : Nat) (y f o : Int) : Prop := W.cell? ⟨g, 0, none⟩ = some (.pointer (some ⟨v, 0, none⟩)) ∧ W.cell? ⟨g, 1, none⟩ = some (.int .i64 y) ∧ W.cell? ⟨g, 2, none⟩ = some (.int .i64 f) ∧ W.cell? ⟨g, 3, none⟩ = some (.int .i64 o)
theorem AccAt.made (w : World) (T : TypeId) (v : Nat) (y f o : Int) : AccAt (w.alloc (.cells #[.pointer (some ⟨v, 0, none⟩), .int .i64 y, .int .i64 f, .int .i64 o] T)) w.heap.size v y f o :=
  ⟨cell_of_row _ _ 0 _ _ (0, 0) (heap_alloc_new w _), cell_of_row _ _ 1 _ _ (0, 0) (heap_alloc_new w _), cell_of_row _ _ 2 _ _ (0, 0) (heap_alloc_new w _), cell_of_row _ _ 3 _ _ (0, 0) (heap_alloc_new w _)⟩
theorem AccAt.block {W W' : World} {g v : Nat} {y f o : Int} (h : AccAt W g v y f o) (hb : W'.heap[g]? = W.heap[g]?) : AccAt W' g v y f o :=
  ⟨(World.cell?_of_block (a := ⟨g, 0, none⟩) hb).trans h.1, (World.cell?_of_block (a := ⟨g, 1, none⟩) hb).trans h.2.1, (World.cell?_of_block (a := ⟨g, 2, none⟩) hb).trans h.2.2.1, (World.cell?_of_block (a := ⟨g, 3, none⟩) hb).trans h.2.2.2⟩
theorem AccAt.below {W W' : World} {B g v : Nat} {y f o : Int} (h : AccAt W g v y f o) (hb : Below B W W') (hg : g < B) : AccAt W' g v y f o := h.block (hb.block g hg)
set_option maxHeartbeats 1600000 in
theorem accBal_any (h : ViewAt w X v m c S) (y f o : Int) (hy : I64 y) (hf : I64 f) (ho : I64 o) :
    Calls Tryz.prog 105 #[.agg #[.pointer (some ⟨v, 0, none⟩), .int .i64 y, .int .i64 f, .int .i64 o]] w fun e w' => e = .returned (.int .i64 (seqV (S.now (bKy y f o)))) ∧ Below w.heap.size w w' := by
  obtain ⟨w1, hw1⟩ : ∃ w1, w1 = w.alloc (.cells #[.pointer (some ⟨v, 0, none⟩), .int .i64 y, .int .i64 f, .int .i64 o] 158) := ⟨_, rfl⟩
  have hb1 : Below w.heap.size w w1 := by rw [hw1]; exact (Below.refl _ _).alloc (Nat.le_refl _) _
  have hlt : w.heap.size < w1.drew.heap.size := by rw [hw1]; show w.heap.size < (w.alloc _).heap.size; simp
  have hA : AccAt w1.drew w.heap.size v y f o := by rw [hw1]; exact AccAt.made w _ v y f o
  have hT := hb1.drew
  have h1 : ViewAt w1.drew X v m c S := h.below hb1.drew
  have C5 : Hid (∀ W, Below w1.drew.heap.size w1.drew W → AccAt W w.heap.size v y f o) := Lib.hid fun W hW => hA.below hW hlt
  have c5 : w1.drew.cell? ⟨w.heap.size, 0, none⟩ = some (.pointer (some ⟨v, 0, none⟩)) ∧ w1.drew.cell? ⟨w.heap.size, 1, none⟩ = some (.int .i64 y) ∧ w1.drew.cell? ⟨w.heap.size, 2, none⟩ = some (.int .i64 f) ∧ w1.drew.cell? ⟨w.heap.size, 3, none⟩ = some (.int .i64 o) := hA
  rw [← numB_one]
  clear hA hb1 h
  go_enter Tryz.func105, Tryz.ntmps105
  go_wp2_with fail
  rw [← hw1]
  clear hw1
  go_region_held3 (fun W => W.cell? ⟨w.heap.size, 0, none⟩ = some (.pointer (some ⟨v, 0, none⟩)) ∧ W.cell? ⟨w.heap.size, 1, none⟩ = some (.int .i64 y) ∧ W.cell? ⟨w.heap.size, 2, none⟩ = some (.int .i64 f) ∧ W.cell? ⟨w.heap.size, 3, none⟩ = some (.int .i64 o))
    (first | with_reducible exact c5 | exact c5)
    (first
      | (go_at_call 129; refine Calls.mono (accKey_any _ y f o _ hy hf ho) ?_; rintro e wk ⟨A, k, rfl, hk, hr, hbk⟩; have hg := vGet_any (k := k) (h1.below hbk) hr (Nat.le_refl _) (by decide); have hT := hT.trans (hbk.mono hT.size); have c5 := C5.out _ hbk; have hP := hbk; clear hr hbk)
      | (go_at_call 62; refine Calls.mono hg ?_; rintro e wg ⟨u, rfl, hs, hbg⟩; have hT := hT.trans (hbg.mono hT.size); have c5 := C5.out _ (hP.trans (hbg.mono hP.size)); clear hg hbg))
  obtain ⟨Au, nu, ku, rfl, hu1, hu2, hu3, _⟩ := hs
  have HT := Lib.hid hT
  have HU := Lib.hid (numberOf_any hu3 (Nat.le_refl _) hu1 (Nat.le_trans hu2 (by unfold maxLen; omega)))
  clear hT c5 C5 h1 hP hu1 hu2 hu3
  go_wp2_with fail
  refine HU.out.mono ?_
  rintro e w3 ⟨rfl, hb3⟩
  have HE := Lib.hid (HT.out.trans (hb3.mono HT.out.size))
  clear hb3 HU HT
  go_wp2_with fail
  go_ret
  exact ⟨rfl, HE.out⟩
end
end Go.Proofs.YtilhcchnlbdlhaaGreat
