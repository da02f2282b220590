/-
  Contracts of recs.numbers and of the plain both: the numbers of a pair's key and of its value, if it has the tag and as many of each. No condition but that lengths are ints.
-/
import Derived.Test.YtlpjggilkfpleaaGreatRecA
namespace Go.Proofs.YtlpjggilkfpleaaGreat
open Go.RowKit
set_option maxRecDepth 100000
set_option linter.unusedVariables false

/-- The numbers of a pair, if it has the tag and as many of each. -/
def numsR (p : KV) (t : Int) (i j : Nat) : Option (List Int × List Int) :=
  if ((splitK p.1).2.2 = true ∧ (splitK p.1).2.1 = t ∧ (splitK p.1).1.length = i) ∧ (unpackR p.2 (j : Int)).2 = 0 then some ((splitK p.1).1, (unpackR p.2 (j : Int)).1) else none
theorem unpackR_len {b : List Int} {j : Nat} (h : (unpackR b (j : Int)).2 = 0) : (unpackR b (j : Int)).1.length = j := by
  unfold unpackR at h ⊢
  split at h
  · rename_i h1
    rw [if_pos h1]
    split at h
    · rename_i h2
      rw [if_pos h2]
      simp [unpackN_length]
    · cases h
  · cases h

/-- How a call answers them. -/
def GotN (w w' : World) (e : Ending) (r : Option (List Int × List Int)) (i j : Nat) : Prop :=
  ∃ A n c A' n' c' ok, e = .returned (.tuple #[.slice A n c, .slice A' n' c', .bool ok]) ∧ Below w.heap.size w w' ∧ ok = r.isSome ∧ ∀ k v, r = some (k, v) → n = i ∧ n' = j ∧ RI w' w'.heap.size A i k ∧ RI w' w'.heap.size A' j v

theorem RI.later {w w' : World} {n : Nat} {A : Option Addr} {l : List Int} (h : RI w w.heap.size A n l) (hb : Below w.heap.size w w') : RI w' w'.heap.size A n l := (h.below hb).more hb.size

set_option maxHeartbeats 3200000 in
theorem numbers_any (ka : Option Addr) (kn kc : Nat) (va : Option Addr) (vn vc : Nat) (p : KV) (t : Int) (i j B : Nat) (w : World) (hk : RB w B ka kn p.1) (hv : RB w B va vn p.2) (hB : B ≤ w.heap.size) (hkc : kn ≤ kc) (hvc : vn ≤ vc) (hkm : kn ≤ maxLen) (hvm : vn ≤ maxLen) (ht : 0 ≤ t ∧ t < 256) (hi : i ≤ 15) (hj : j ≤ 15) :
    Calls Tryz.prog 94 #[.agg #[.slice ka kn kc, .slice va vn vc], .int .u8 t, .int .i64 i, .int .i64 j] w fun e w' => GotN w w' e (numsR p t i j) i j := by
  have hb1 : Below w.heap.size w (w.alloc (.cells #[.slice ka kn kc, .slice va vn vc] 88)) := (Below.refl _ _).alloc (Nat.le_refl _) _
  have c0 := box_cell0 (heap_alloc_new w (.cells #[.slice ka kn kc, .slice va vn vc] 88 (0, 0)))
  have HS := Lib.hid (kSplit_any ka kn kc B p.1 _ (hk.below (hb1.mono hB)) (Nat.le_trans hB hb1.size) hkc hkm)
  have HN : Hid (numsR p t i j = if ((splitK p.1).2.2 = true ∧ (splitK p.1).2.1 = t ∧ (splitK p.1).1.length = i) ∧ (unpackR p.2 (j : Int)).2 = 0 then some ((splitK p.1).1, (unpackR p.2 (j : Int)).1) else none) := Lib.hid rfl
  go_enter Tryz.func94, Tryz.ntmps94
  go_wp2_with fail
  refine HS.out.mono ?_
  clear HS
  rintro e w2 ⟨A, k, c, rfl, hkc2, hk1000, hri, hb2⟩
  have hb2' := hb1.trans (hb2.mono hb1.size)
  have c1 := (hb2.cell (p := ⟨w.heap.size, 1, none⟩) (by simp)).trans (box_cell1 (heap_alloc_new w (.cells #[.slice ka kn kc, .slice va vn vc] 88 (0, 0))))
  have HU := Lib.hid (fUnpack_any va vn vc B p.2 (j : Int) w2 (hv.below (hb2'.mono hB)) (Nat.le_trans hB hb2'.size) hvc hvm (by omega) (by omega))
  have hlen := hri.len
  have HL := Lib.hid (fun h => unpackR_len (b := p.2) (j := j) h)
  generalize splitK p.1 = r at hri HN hlen ⊢
  generalize unpackR p.2 (j : Int) = q at HU HL HN
  obtain ⟨l, t', ok⟩ := r
  obtain ⟨m, en⟩ := q
  have HB := Lib.hid hb2'
  have HR := Lib.hid hri
  clear hri hb1 hb2 hb2' hk hv c0
  simp only at hlen HN HU HL HR
  cases ok with
  | false =>
    go_wp2_with fail
    go_ret3
    refine ⟨_, _, _, _, _, _, _, rfl, HB.out, ?_, ?_⟩
    · rw [HN.out]; simp
    · intro k v h; rw [HN.out] at h; simp at h
  | true =>
    by_cases h1 : t' = t
    · subst h1
      by_cases h2 : k = i
      · subst h2
        go_wp2_with fail
        refine HU.out.mono ?_
        rintro e w3 ⟨A3, k3, c3, rfl, hkc3, hk3, hri3, hb3⟩
        have hb3' := HB.out.trans (hb3.mono HB.out.size)
        have HR3 := Lib.hid (And.intro (HR.out.later hb3) (And.intro hri3 hb3'))
        clear HU hri3 hb3 hb3' c1
        go_wp2_with fail
        go_ret3
        refine ⟨_, _, _, _, _, _, _, rfl, HR3.out.2.2, ?_, ?_⟩
        · rw [HN.out]; by_cases he : en = 0 <;> simp [he, hlen]
        · intro k v h
          rw [HN.out] at h
          by_cases he : en = 0
          · rw [if_pos (by simp [hlen, he])] at h
            cases h
            have := HL.out he
            have e3 := HR3.out.2.1.len
            have e3' : m.length = k3 := e3
            have this' : m.length = j := this
            refine ⟨rfl, by omega, HR3.out.1, ?_⟩
            have e4 : k3 = j := by omega
            rw [← e4]
            exact HR3.out.2.1
          · rw [if_neg (fun h => he h.2)] at h
            cases h
      · have h2' : ((k : Int) != (i : Int)) = true := by simp; omega
        go_wp2_with fail
        go_ret3
        refine ⟨_, _, _, _, _, _, _, rfl, HB.out, ?_, ?_⟩
        · rw [HN.out]; simp [hlen, h2]
        · intro k v h; rw [HN.out] at h; simp [hlen, h2] at h
    · have h1' : (t' != t) = true := by simp [h1]
      go_wp2_with fail
      go_ret3
      refine ⟨_, _, _, _, _, _, _, rfl, HB.out, ?_, ?_⟩
      · rw [HN.out]; simp [h1]
      · intro k v h; rw [HN.out] at h; simp [h1] at h

/-- What the plain Of answers. -/
def ofK (b : List Int) (t : Int) (i : Nat) : Option (List Int) := if (splitK b).2.2 = true ∧ (splitK b).2.1 = t ∧ (splitK b).1.length = i then some (splitK b).1 else none
theorem numsR_of (p : KV) (t : Int) (i j : Nat) : numsR p t i j = if (unpackR p.2 (j : Int)).2 = 0 then (ofK p.1 t i).map (fun k => (k, (unpackR p.2 (j : Int)).1)) else none := by
  unfold numsR ofK
  by_cases h1 : (unpackR p.2 (j : Int)).2 = 0 <;> by_cases h2 : (splitK p.1).2.2 = true ∧ (splitK p.1).2.1 = t ∧ (splitK p.1).1.length = i <;> simp [h1, h2]
set_option maxHeartbeats 3200000 in
theorem of_any (ka : Option Addr) (kn kc : Nat) (b : List Int) (t : Int) (i B : Nat) (w : World) (hk : RB w B ka kn b) (hB : B ≤ w.heap.size) (hkc : kn ≤ kc) (hkm : kn ≤ maxLen) (ht : 0 ≤ t ∧ t < 256) (hi : i ≤ 15) :
    Calls Tryz.prog 122 #[.slice ka kn kc, .int .u8 t, .int .i64 i] w fun e w' => ∃ A n c ok, e = .returned (.tuple #[.slice A n c, .bool ok]) ∧ Below w.heap.size w w' ∧ ok = (ofK b t i).isSome ∧ ∀ k, ofK b t i = some k → n = i ∧ RI w' w'.heap.size A i k := by
  have HS := Lib.hid (rSplit_any ka kn kc B b _ hk hB hkc hkm)
  have HN : Hid (ofK b t i = if (splitK b).2.2 = true ∧ (splitK b).2.1 = t ∧ (splitK b).1.length = i then some (splitK b).1 else none) := Lib.hid rfl
  go_enter Tryz.func122, Tryz.ntmps122
  go_wp2_with fail
  refine HS.out.mono ?_
  clear HS
  rintro e w2 ⟨A, k, c, rfl, hkc2, hk1000, hri, hb2⟩
  have hlen := hri.len
  generalize splitK b = r at hri HN hlen ⊢
  obtain ⟨l, t', ok⟩ := r
  have HB := Lib.hid hb2
  have HR := Lib.hid hri
  clear hri hb2 hk
  simp only at hlen HN HR
  cases ok with
  | false =>
    go_wp2_with fail
    go_ret2
    refine ⟨_, _, _, _, rfl, HB.out, ?_, ?_⟩
    · rw [HN.out]; simp
    · intro k h; rw [HN.out] at h; simp at h
  | true =>
    by_cases h1 : t' = t
    · subst h1
      by_cases h2 : k = i
      · subst h2
        go_wp2_with fail
        go_ret2
        refine ⟨_, _, _, _, rfl, HB.out, ?_, ?_⟩
        · rw [HN.out]; simp [hlen]
        · intro k' h
          rw [HN.out, if_pos (by simp [hlen])] at h
          cases h
          exact ⟨rfl, HR.out⟩
      · have h2' : ((k : Int) != (i : Int)) = true := by simp; omega
        go_wp2_with fail
        go_ret2
        refine ⟨_, _, _, _, rfl, HB.out, ?_, ?_⟩
        · rw [HN.out]; simp [hlen, h2]
        · intro k' h; rw [HN.out] at h; simp [hlen, h2] at h
    · have h1' : (t' != t) = true := by simp [h1]
      go_wp2_with fail
      go_ret2
      refine ⟨_, _, _, _, rfl, HB.out, ?_, ?_⟩
      · rw [HN.out]; simp [h1]
      · intro k' h; rw [HN.out] at h; simp [h1] at h
set_option maxHeartbeats 3200000 in
theorem both_any (ka : Option Addr) (kn kc : Nat) (va : Option Addr) (vn vc : Nat) (p : KV) (t : Int) (i j B : Nat) (w : World) (hk : RB w B ka kn p.1) (hv : RB w B va vn p.2) (hB : B ≤ w.heap.size) (hkc : kn ≤ kc) (hvc : vn ≤ vc) (hkm : kn ≤ maxLen) (hvm : vn ≤ maxLen) (ht : 0 ≤ t ∧ t < 256) (hi : i ≤ 15) (hj : j ≤ 15) :
    Calls Tryz.prog 98 #[.agg #[.slice ka kn kc, .slice va vn vc], .int .u8 t, .int .i64 i, .int .i64 j] w fun e w' => GotN w w' e (numsR p t i j) i j := by
  have hb1 : Below w.heap.size w (w.alloc (.cells #[.slice ka kn kc, .slice va vn vc] 88)) := (Below.refl _ _).alloc (Nat.le_refl _) _
  have c0 := box_cell0 (heap_alloc_new w (.cells #[.slice ka kn kc, .slice va vn vc] 88 (0, 0)))
  have HS := Lib.hid (of_any ka kn kc p.1 t i B _ (hk.below (hb1.mono hB)) (Nat.le_trans hB hb1.size) hkc hkm ht hi)
  have HN := Lib.hid (numsR_of p t i j)
  go_enter Tryz.func98, Tryz.ntmps98
  go_wp2_with fail
  refine HS.out.mono ?_
  clear HS
  rintro e w2 ⟨A, k, c, ok, rfl, hb2, hok, hri⟩
  have hb2' := hb1.trans (hb2.mono hb1.size)
  have c1 := (hb2.cell (p := ⟨w.heap.size, 1, none⟩) (by simp)).trans (box_cell1 (heap_alloc_new w (.cells #[.slice ka kn kc, .slice va vn vc] 88 (0, 0))))
  have HU := Lib.hid (rUnpack_any va vn vc B p.2 (j : Int) w2 (hv.below (hb2'.mono hB)) (Nat.le_trans hB hb2'.size) hvc hvm (by omega) (by omega))
  have HL := Lib.hid (fun h => unpackR_len (b := p.2) (j := j) h)
  generalize ofK p.1 t i = r at hri HN hok ⊢
  generalize unpackR p.2 (j : Int) = q at HU HL HN
  obtain ⟨m, en⟩ := q
  have HB := Lib.hid hb2'
  have HR := Lib.hid hri
  clear hri hb1 hb2 hb2' hk hv c0
  simp only at HN HU HL
  go_wp2_with fail
  refine HU.out.mono ?_
  rintro e w3 ⟨A3, k3, c3, rfl, hkc3, hk3, hri3, hb3⟩
  have HB3 := Lib.hid (And.intro hb3 (HB.out.trans (hb3.mono HB.out.size)))
  have HR3 := Lib.hid hri3
  clear HU hri3 hb3 c1
  have hfin : ∀ ok', ok' = (numsR p t i j).isSome → GotN w w3 (.returned (.tuple #[.slice A k c, .slice A3 k3 c3, .bool ok'])) (numsR p t i j) i j := fun ok' hok' => by
    refine ⟨_, _, _, _, _, _, _, rfl, HB3.out.2, hok', ?_⟩
    intro k' v h
    rw [HN.out] at h
    by_cases he : en = 0
    · rw [if_pos he] at h
      cases r with
      | none => cases h
      | some k'' =>
        cases h
        obtain ⟨e1, e2⟩ := HR.out _ rfl
        have e3 : m.length = k3 := HR3.out.len
        have e4 : m.length = j := HL.out he
        refine ⟨e1, by omega, e2.later HB3.out.1, ?_⟩
        have e5 : k3 = j := by omega
        rw [← e5]
        exact HR3.out
    · rw [if_neg he] at h
      cases h
  have HF := Lib.hid hfin
  clear hfin
  cases r with
  | none =>
    obtain rfl : ok = false := hok
    go_wp2_with fail
    go_ret3
    exact HF.out _ (by rw [HN.out]; split <;> rfl)
  | some l =>
    obtain rfl : ok = true := hok
    go_wp2_with fail
    go_ret3
    exact HF.out _ (by rw [HN.out]; by_cases he : en = 0 <;> simp [he])

end Go.Proofs.YtlpjggilkfpleaaGreat
