/-
  The texts RecC, RecD joined. Conditions: those that each part says at its head.
-/
import Derived.Test.YtlcbmobdokicaaaGreatRecA
import Derived.Laws.ResultCell
import Derived.StillTailTactics

/-
  Contracts of recs.numbers and of the plain both: the numbers of a pair's key and of its value, if it has the tag and as many of each. No condition but that lengths are ints.
-/
namespace Go.Proofs.YtlcbmobdokicaaaGreat
open Go.RowKit
set_option maxRecDepth 100000
set_option linter.unusedVariables false

/-- The numbers of a pair, if it has the tag and as many of each. -/
def numsR (p : KV) (t : Int) (i j : Nat) : Option (List Int × List Int) :=
  if ((splitK p.1).2.2 = true ∧ (splitK p.1).2.1 = t ∧ (splitK p.1).1.length = i) ∧ (unpackR p.2 (j : Int)).2 = 0 then some ((splitK p.1).1, (unpackR p.2 (j : Int)).1) else none
theorem unpackR_len {b : List Int} {j : Nat} (h : (unpackR b (j : Int)).2 = 0) : (unpackR b (j : Int)).1.length = j := by
  unfold unpackR at h ⊢
  split at h
  · rename_i h1
    rw [if_pos h1]
    split at h
    · rename_i h2
      rw [if_pos h2]
      simp [unpackN_length]
    · cases h
  · cases h

/-- How a call answers them. -/
def GotN (w w' : World) (e : Ending) (r : Option (List Int × List Int)) (i j : Nat) : Prop :=
  ∃ A n c A' n' c' ok, e = .returned (.tuple #[.slice A n c, .slice A' n' c', .bool ok]) ∧ Below w.heap.size w w' ∧ ok = r.isSome ∧ ∀ k v, r = some (k, v) → n = i ∧ n' = j ∧ RI w' w'.heap.size A i k ∧ RI w' w'.heap.size A' j v

theorem RI.later {w w' : World} {n : Nat} {A : Option Addr} {l : List Int} (h : RI w w.heap.size A n l) (hb : Below w.heap.size w w') : RI w' w'.heap.size A n l := (h.below hb).more hb.size

set_option maxHeartbeats 3200000 in
theorem numbers_any (ka : Option Addr) (kn kc : Nat) (va : Option Addr) (vn vc : Nat) (p : KV) (t : Int) (i j B : Nat) (w : World) (hk : RB w B ka kn p.1) (hv : RB w B va vn p.2) (hB : B ≤ w.heap.size) (hkc : kn ≤ kc) (hvc : vn ≤ vc) (hkm : kn ≤ maxLen) (hvm : vn ≤ maxLen) (ht : 0 ≤ t ∧ t < 256) (hi : i ≤ 15) (hj : j ≤ 15) :
    Calls Tryz.prog 103 #[.agg #[.slice ka kn kc, .slice va vn vc], .int .u8 t, .int .i64 i, .int .i64 j] w fun e w' => GotN w w' e (numsR p t i j) i j := by
  have hb1 : Below w.heap.size w (w.alloc (.cells #[.slice ka kn kc, .slice va vn vc] 111)) := (Below.refl _ _).alloc (Nat.le_refl _) _
  have c0 := box_cell0 (heap_alloc_new w (.cells #[.slice ka kn kc, .slice va vn vc] 111 (0, 0)))
  have HS := Lib.hid (kSplit_any ka kn kc B p.1 _ (hk.below (hb1.mono hB)) (Nat.le_trans hB hb1.size) hkc hkm)
  have HN : Hid (numsR p t i j = if ((splitK p.1).2.2 = true ∧ (splitK p.1).2.1 = t ∧ (splitK p.1).1.length = i) ∧ (unpackR p.2 (j : Int)).2 = 0 then some ((splitK p.1).1, (unpackR p.2 (j : Int)).1) else none) := Lib.hid rfl
  go_enter Tryz.func103, Tryz.ntmps103
  go_wp2_with fail
  refine HS.out.mono ?_
  clear HS
  rintro e w2 ⟨A, k, c, rfl, hkc2, hk1000, hri, hb2⟩
  have hb2' := hb1.trans (hb2.mono hb1.size)
  have c1 := (hb2.cell (p := ⟨w.heap.size, 1, none⟩) (by simp)).trans (box_cell1 (heap_alloc_new w (.cells #[.slice ka kn kc, .slice va vn vc] 111 (0, 0))))
  have HU := Lib.hid (fUnpack_any va vn vc B p.2 (j : Int) w2 (hv.below (hb2'.mono hB)) (Nat.le_trans hB hb2'.size) hvc hvm (by omega) (by omega))
  have hlen := hri.len
  have HL := Lib.hid (fun h => unpackR_len (b := p.2) (j := j) h)
  generalize splitK p.1 = r at hri HN hlen ⊢
  generalize unpackR p.2 (j : Int) = q at HU HL HN
  obtain ⟨l, t', ok⟩ := r
  obtain ⟨m, en⟩ := q
  have HB := Lib.hid hb2'
  have HR := Lib.hid hri
  clear hri hb1 hb2 hb2' hk hv c0
  simp only at hlen HN HU HL HR
  cases ok with
  | false =>
    go_wp2_with fail
    go_ret3
    refine ⟨_, _, _, _, _, _, _, rfl, HB.out, ?_, ?_⟩
    · rw [HN.out]; simp
    · intro k v h; rw [HN.out] at h; simp at h
  | true =>
    by_cases h1 : t' = t
    · subst h1
      by_cases h2 : k = i
      · subst h2
        go_wp2_with fail
        refine HU.out.mono ?_
        rintro e w3 ⟨A3, k3, c3, rfl, hkc3, hk3, hri3, hb3⟩
        have hb3' := HB.out.trans (hb3.mono HB.out.size)
        have HR3 := Lib.hid (And.intro (HR.out.later hb3) (And.intro hri3 hb3'))
        clear HU hri3 hb3 hb3' c1
        go_wp2_with fail
        go_ret3
        refine ⟨_, _, _, _, _, _, _, rfl, HR3.out.2.2, ?_, ?_⟩
        · rw [HN.out]; by_cases he : en = 0 <;> simp [he, hlen]
        · intro k v h
          rw [HN.out] at h
          by_cases he : en = 0
          · rw [if_pos (by simp [hlen, he])] at h
            cases h
            have := HL.out he
            have e3 := HR3.out.2.1.len
            have e3' : m.length = k3 := e3
            have this' : m.length = j := this
            refine ⟨rfl, by omega, HR3.out.1, ?_⟩
            have e4 : k3 = j := by omega
            rw [← e4]
            exact HR3.out.2.1
          · rw [if_neg (fun h => he h.2)] at h
            cases h
      · have h2' : ((k : Int) != (i : Int)) = true := by simp; omega
        go_wp2_with fail
        go_ret3
        refine ⟨_, _, _, _, _, _, _, rfl, HB.out, ?_, ?_⟩
        · rw [HN.out]; simp [hlen, h2]
        · intro k v h; rw [HN.out] at h; simp [hlen, h2] at h
    · have h1' : (t' != t) = true := by simp [h1]
      go_wp2_with fail
      go_ret3
      refine ⟨_, _, _, _, _, _, _, rfl, HB.out, ?_, ?_⟩
      · rw [HN.out]; simp [h1]
      · intro k v h; rw [HN.out] at h; simp [h1] at h

/-- What the plain Of answers. -/
def ofK (b : List Int) (t : Int) (i : Nat) : Option (List Int) := if (splitK b).2.2 = true ∧ (splitK b).2.1 = t ∧ (splitK b).1.length = i then some (splitK b).1 else none
theorem numsR_of (p : KV) (t : Int) (i j : Nat) : numsR p t i j = if (unpackR p.2 (j : Int)).2 = 0 then (ofK p.1 t i).map (fun k => (k, (unpackR p.2 (j : Int)).1)) else none := by
  unfold numsR ofK
  by_cases h1 : (unpackR p.2 (j : Int)).2 = 0 <;> by_cases h2 : (splitK p.1).2.2 = true ∧ (splitK p.1).2.1 = t ∧ (splitK p.1).1.length = i <;> simp [h1, h2]
set_option maxHeartbeats 3200000 in
theorem of_any (ka : Option Addr) (kn kc : Nat) (b : List Int) (t : Int) (i B : Nat) (w : World) (hk : RB w B ka kn b) (hB : B ≤ w.heap.size) (hkc : kn ≤ kc) (hkm : kn ≤ maxLen) (ht : 0 ≤ t ∧ t < 256) (hi : i ≤ 15) :
    Calls Tryz.prog 164 #[.slice ka kn kc, .int .u8 t, .int .i64 i] w fun e w' => ∃ A n c ok, e = .returned (.tuple #[.slice A n c, .bool ok]) ∧ Below w.heap.size w w' ∧ ok = (ofK b t i).isSome ∧ ∀ k, ofK b t i = some k → n = i ∧ RI w' w'.heap.size A i k := by
  have HS := Lib.hid (rSplit_any ka kn kc B b _ hk hB hkc hkm)
  have HN : Hid (ofK b t i = if (splitK b).2.2 = true ∧ (splitK b).2.1 = t ∧ (splitK b).1.length = i then some (splitK b).1 else none) := Lib.hid rfl
  go_enter Tryz.func164, Tryz.ntmps164
  go_wp2_with fail
  refine HS.out.mono ?_
  clear HS
  rintro e w2 ⟨A, k, c, rfl, hkc2, hk1000, hri, hb2⟩
  have hlen := hri.len
  generalize splitK b = r at hri HN hlen ⊢
  obtain ⟨l, t', ok⟩ := r
  have HB := Lib.hid hb2
  have HR := Lib.hid hri
  clear hri hb2 hk
  simp only at hlen HN HR
  cases ok with
  | false =>
    go_wp2_with fail
    go_ret2
    refine ⟨_, _, _, _, rfl, HB.out, ?_, ?_⟩
    · rw [HN.out]; simp
    · intro k h; rw [HN.out] at h; simp at h
  | true =>
    by_cases h1 : t' = t
    · subst h1
      by_cases h2 : k = i
      · subst h2
        go_wp2_with fail
        go_ret2
        refine ⟨_, _, _, _, rfl, HB.out, ?_, ?_⟩
        · rw [HN.out]; simp [hlen]
        · intro k' h
          rw [HN.out, if_pos (by simp [hlen])] at h
          cases h
          exact ⟨rfl, HR.out⟩
      · have h2' : ((k : Int) != (i : Int)) = true := by simp; omega
        go_wp2_with fail
        go_ret2
        refine ⟨_, _, _, _, rfl, HB.out, ?_, ?_⟩
        · rw [HN.out]; simp [hlen, h2]
        · intro k' h; rw [HN.out] at h; simp [hlen, h2] at h
    · have h1' : (t' != t) = true := by simp [h1]
      go_wp2_with fail
      go_ret2
      refine ⟨_, _, _, _, rfl, HB.out, ?_, ?_⟩
      · rw [HN.out]; simp [h1]
      · intro k' h; rw [HN.out] at h; simp [h1] at h
set_option maxHeartbeats 3200000 in
theorem both_any (ka : Option Addr) (kn kc : Nat) (va : Option Addr) (vn vc : Nat) (p : KV) (t : Int) (i j B : Nat) (w : World) (hk : RB w B ka kn p.1) (hv : RB w B va vn p.2) (hB : B ≤ w.heap.size) (hkc : kn ≤ kc) (hvc : vn ≤ vc) (hkm : kn ≤ maxLen) (hvm : vn ≤ maxLen) (ht : 0 ≤ t ∧ t < 256) (hi : i ≤ 15) (hj : j ≤ 15) :
    Calls Tryz.prog 140 #[.agg #[.slice ka kn kc, .slice va vn vc], .int .u8 t, .int .i64 i, .int .i64 j] w fun e w' => GotN w w' e (numsR p t i j) i j := by
  have hb1 : Below w.heap.size w (w.alloc (.cells #[.slice ka kn kc, .slice va vn vc] 111)) := (Below.refl _ _).alloc (Nat.le_refl _) _
  have c0 := box_cell0 (heap_alloc_new w (.cells #[.slice ka kn kc, .slice va vn vc] 111 (0, 0)))
  have HS := Lib.hid (of_any ka kn kc p.1 t i B _ (hk.below (hb1.mono hB)) (Nat.le_trans hB hb1.size) hkc hkm ht hi)
  have HN := Lib.hid (numsR_of p t i j)
  go_enter Tryz.func140, Tryz.ntmps140
  go_wp2_with fail
  refine HS.out.mono ?_
  clear HS
  rintro e w2 ⟨A, k, c, ok, rfl, hb2, hok, hri⟩
  have hb2' := hb1.trans (hb2.mono hb1.size)
  have c1 := (hb2.cell (p := ⟨w.heap.size, 1, none⟩) (by simp)).trans (box_cell1 (heap_alloc_new w (.cells #[.slice ka kn kc, .slice va vn vc] 111 (0, 0))))
  have HU := Lib.hid (rUnpack_any va vn vc B p.2 (j : Int) w2 (hv.below (hb2'.mono hB)) (Nat.le_trans hB hb2'.size) hvc hvm (by omega) (by omega))
  have HL := Lib.hid (fun h => unpackR_len (b := p.2) (j := j) h)
  generalize ofK p.1 t i = r at hri HN hok ⊢
  generalize unpackR p.2 (j : Int) = q at HU HL HN
  obtain ⟨m, en⟩ := q
  have HB := Lib.hid hb2'
  have HR := Lib.hid hri
  clear hri hb1 hb2 hb2' hk hv c0
  simp only at HN HU HL
  go_wp2_with fail
  refine HU.out.mono ?_
  rintro e w3 ⟨A3, k3, c3, rfl, hkc3, hk3, hri3, hb3⟩
  have HB3 := Lib.hid (And.intro hb3 (HB.out.trans (hb3.mono HB.out.size)))
  have HR3 := Lib.hid hri3
  clear HU hri3 hb3 c1
  have hfin : ∀ ok', ok' = (numsR p t i j).isSome → GotN w w3 (.returned (.tuple #[.slice A k c, .slice A3 k3 c3, .bool ok'])) (numsR p t i j) i j := fun ok' hok' => by
    refine ⟨_, _, _, _, _, _, _, rfl, HB3.out.2, hok', ?_⟩
    intro k' v h
    rw [HN.out] at h
    by_cases he : en = 0
    · rw [if_pos he] at h
      cases r with
      | none => cases h
      | some k'' =>
        cases h
        obtain ⟨e1, e2⟩ := HR.out _ rfl
        have e3 : m.length = k3 := HR3.out.len
        have e4 : m.length = j := HL.out he
        refine ⟨e1, by omega, e2.later HB3.out.1, ?_⟩
        have e5 : k3 = j := by omega
        rw [← e5]
        exact HR3.out
    · rw [if_neg he] at h
      cases h
  have HF := Lib.hid hfin
  clear hfin
  cases r with
  | none =>
    obtain rfl : ok = false := hok
    go_wp2_with fail
    go_ret3
    exact HF.out _ (by rw [HN.out]; split <;> rfl)
  | some l =>
    obtain rfl : ok = true := hok
    go_wp2_with fail
    go_ret3
    exact HF.out _ (by rw [HN.out]; by_cases he : en = 0 <;> simp [he])

end Go.Proofs.YtlcbmobdokicaaaGreat

/-
  Contracts of recs.NodeOf, DocOf, DocLineOf, EntryOf, LineOf and of the plain ones: what a pair is. No condition but that lengths are ints.
-/
namespace Go.Proofs.YtlcbmobdokicaaaGreat
open Go.RowKit
set_option maxRecDepth 100000
set_option linter.unusedVariables false

theorem results_ct {fn : Func} {p u : Tmp} {ty : TypeId} {P : Program} {w : World} (h : fn.results = #[.cell p ty, .tmp u]) (tmps : Array Value) (g : Nat) (cs : Array Value)
    (hp : tmps.getD p undef = .pointer (some ⟨g, 0, none⟩)) (hr : (loadVar ty ⟨g, 0, none⟩).run P w = .ok (.agg cs) w) :
    (results fn tmps).run P w = .ok (.tuple #[.agg cs, tmps.getD u undef]) w := by
  rw [results_cell_tmp h, hp]
  simp [asAddr, hr, Result.andThen]
theorem below_box {w w' : World} {g : Nat} (h : Below w.heap.size w w') (hg : w.heap.size ≤ g) (i : Nat) (x : Value) : Below w.heap.size w (w'.setCell ⟨g, i, none⟩ x) := h.setCell hg x

/-- What DocLineOf answers of a pair's numbers. -/
def docLineV : Option (List Int × List Int) → Value
  | some (k, v) => .agg #[.int .i64 (v[0]?.getD 0), .int .i64 (v[1]?.getD 0), .int .i64 (v[2]?.getD 0), .int .i64 (v[3]?.getD 0)]
  | none => .agg #[.int .i64 0, .int .i64 0, .int .i64 0, .int .i64 0]
theorem docLine_size : (Tryz.prog.info? 58).map (·.size) = some 4 := by kernel_rfl
theorem docLine_set {w : World} {g : Nat} {T : TypeId} {z0 z1 z2 z3 : Value} {x0 x1 x2 x3 : Value} (h : w.heap[g]? = some (.cells #[z0, z1, z2, z3] T (0, 0))) : ((((w.setCell ⟨g, 0, none⟩ x0).setCell ⟨g, 1, none⟩ x1).setCell ⟨g, 2, none⟩ x2).setCell ⟨g, 3, none⟩ x3).heap[g]? = some (.cells #[x0, x1, x2, x3] T (0, 0)) := by
  have h1 : (w.setCell ⟨g, 0, none⟩ x0).heap[g]? = some (.cells #[x0, z1, z2, z3] T (0, 0)) := heap_setCell_same _ g 0 _ T x0 h
  have h2 : ((w.setCell ⟨g, 0, none⟩ x0).setCell ⟨g, 1, none⟩ x1).heap[g]? = some (.cells #[x0, x1, z2, z3] T (0, 0)) := heap_setCell_same _ g 1 _ T x1 h1
  have h3 : (((w.setCell ⟨g, 0, none⟩ x0).setCell ⟨g, 1, none⟩ x1).setCell ⟨g, 2, none⟩ x2).heap[g]? = some (.cells #[x0, x1, x2, z3] T (0, 0)) := heap_setCell_same _ g 2 _ T x2 h2
  have h4 : ((((w.setCell ⟨g, 0, none⟩ x0).setCell ⟨g, 1, none⟩ x1).setCell ⟨g, 2, none⟩ x2).setCell ⟨g, 3, none⟩ x3).heap[g]? = some (.cells #[x0, x1, x2, x3] T (0, 0)) := heap_setCell_same _ g 3 _ T x3 h3
  exact h4
theorem docLine_cells {w : World} {g : Nat} {T : TypeId} {z0 z1 z2 z3 : Value} (h : w.heap[g]? = some (.cells #[z0, z1, z2, z3] T (0, 0))) : w.cell? ⟨g, 0, none⟩ = some z0 ∧ w.cell? ⟨g, 1, none⟩ = some z1 ∧ w.cell? ⟨g, 2, none⟩ = some z2 ∧ w.cell? ⟨g, 3, none⟩ = some z3 :=
  ⟨cell_of_row w g 0 _ T (0, 0) h, cell_of_row w g 1 _ T (0, 0) h, cell_of_row w g 2 _ T (0, 0) h, cell_of_row w g 3 _ T (0, 0) h⟩

/-- What EntryOf answers of a pair's numbers. -/
def entryV : Option (List Int × List Int) → Value
  | some (k, v) => .agg #[.int .i64 (k[0]?.getD 0), .int .i64 (v[0]?.getD 0), .int .i64 (v[1]?.getD 0), .int .i64 (v[2]?.getD 0), .int .i64 (v[3]?.getD 0), .int .i64 (v[4]?.getD 0)]
  | none => .agg #[.int .i64 0, .int .i64 0, .int .i64 0, .int .i64 0, .int .i64 0, .int .i64 0]
theorem entry_set {w : World} {g : Nat} {T : TypeId} {z0 z1 z2 z3 z4 z5 : Value} {x0 x1 x2 x3 x4 x5 : Value} (h : w.heap[g]? = some (.cells #[z0, z1, z2, z3, z4, z5] T (0, 0))) : ((((((w.setCell ⟨g, 0, none⟩ x0).setCell ⟨g, 1, none⟩ x1).setCell ⟨g, 2, none⟩ x2).setCell ⟨g, 3, none⟩ x3).setCell ⟨g, 4, none⟩ x4).setCell ⟨g, 5, none⟩ x5).heap[g]? = some (.cells #[x0, x1, x2, x3, x4, x5] T (0, 0)) := by
  have h1 : (w.setCell ⟨g, 0, none⟩ x0).heap[g]? = some (.cells #[x0, z1, z2, z3, z4, z5] T (0, 0)) := heap_setCell_same _ g 0 _ T x0 h
  have h2 : ((w.setCell ⟨g, 0, none⟩ x0).setCell ⟨g, 1, none⟩ x1).heap[g]? = some (.cells #[x0, x1, z2, z3, z4, z5] T (0, 0)) := heap_setCell_same _ g 1 _ T x1 h1
  have h3 : (((w.setCell ⟨g, 0, none⟩ x0).setCell ⟨g, 1, none⟩ x1).setCell ⟨g, 2, none⟩ x2).heap[g]? = some (.cells #[x0, x1, x2, z3, z4, z5] T (0, 0)) := heap_setCell_same _ g 2 _ T x2 h2
  have h4 : ((((w.setCell ⟨g, 0, none⟩ x0).setCell ⟨g, 1, none⟩ x1).setCell ⟨g, 2, none⟩ x2).setCell ⟨g, 3, none⟩ x3).heap[g]? = some (.cells #[x0, x1, x2, x3, z4, z5] T (0, 0)) := heap_setCell_same _ g 3 _ T x3 h3
  have h5 : (((((w.setCell ⟨g, 0, none⟩ x0).setCell ⟨g, 1, none⟩ x1).setCell ⟨g, 2, none⟩ x2).setCell ⟨g, 3, none⟩ x3).setCell ⟨g, 4, none⟩ x4).heap[g]? = some (.cells #[x0, x1, x2, x3, x4, z5] T (0, 0)) := heap_setCell_same _ g 4 _ T x4 h4
  have h6 : ((((((w.setCell ⟨g, 0, none⟩ x0).setCell ⟨g, 1, none⟩ x1).setCell ⟨g, 2, none⟩ x2).setCell ⟨g, 3, none⟩ x3).setCell ⟨g, 4, none⟩ x4).setCell ⟨g, 5, none⟩ x5).heap[g]? = some (.cells #[x0, x1, x2, x3, x4, x5] T (0, 0)) := heap_setCell_same _ g 5 _ T x5 h5
  exact h6
theorem entry_cells {w : World} {g : Nat} {T : TypeId} {z0 z1 z2 z3 z4 z5 : Value} (h : w.heap[g]? = some (.cells #[z0, z1, z2, z3, z4, z5] T (0, 0))) : w.cell? ⟨g, 0, none⟩ = some z0 ∧ w.cell? ⟨g, 1, none⟩ = some z1 ∧ w.cell? ⟨g, 2, none⟩ = some z2 ∧ w.cell? ⟨g, 3, none⟩ = some z3 ∧ w.cell? ⟨g, 4, none⟩ = some z4 ∧ w.cell? ⟨g, 5, none⟩ = some z5 :=
  ⟨cell_of_row w g 0 _ T (0, 0) h, cell_of_row w g 1 _ T (0, 0) h, cell_of_row w g 2 _ T (0, 0) h, cell_of_row w g 3 _ T (0, 0) h, cell_of_row w g 4 _ T (0, 0) h, cell_of_row w g 5 _ T (0, 0) h⟩

/-- What LineOf answers of a pair's numbers. -/
def lineV : Option (List Int × List Int) → Value
  | some (k, v) => .agg #[.int .i64 (v[0]?.getD 0), .int .i64 (v[1]?.getD 0), .int .i64 0, .int .i64 (v[2]?.getD 0)]
  | none => .agg #[.int .i64 0, .int .i64 0, .int .i64 0, .int .i64 0]
theorem line_size : (Tryz.prog.info? 43).map (·.size) = some 4 := by kernel_rfl
theorem line_set {w : World} {g : Nat} {T : TypeId} {z0 z1 z2 z3 : Value} {x0 x1 x2 x3 : Value} (h : w.heap[g]? = some (.cells #[z0, z1, z2, z3] T (0, 0))) : ((((w.setCell ⟨g, 0, none⟩ x0).setCell ⟨g, 1, none⟩ x1).setCell ⟨g, 2, none⟩ x2).setCell ⟨g, 3, none⟩ x3).heap[g]? = some (.cells #[x0, x1, x2, x3] T (0, 0)) := by
  have h1 : (w.setCell ⟨g, 0, none⟩ x0).heap[g]? = some (.cells #[x0, z1, z2, z3] T (0, 0)) := heap_setCell_same _ g 0 _ T x0 h
  have h2 : ((w.setCell ⟨g, 0, none⟩ x0).setCell ⟨g, 1, none⟩ x1).heap[g]? = some (.cells #[x0, x1, z2, z3] T (0, 0)) := heap_setCell_same _ g 1 _ T x1 h1
  have h3 : (((w.setCell ⟨g, 0, none⟩ x0).setCell ⟨g, 1, none⟩ x1).setCell ⟨g, 2, none⟩ x2).heap[g]? = some (.cells #[x0, x1, x2, z3] T (0, 0)) := heap_setCell_same _ g 2 _ T x2 h2
  have h4 : ((((w.setCell ⟨g, 0, none⟩ x0).setCell ⟨g, 1, none⟩ x1).setCell ⟨g, 2, none⟩ x2).setCell ⟨g, 3, none⟩ x3).heap[g]? = some (.cells #[x0, x1, x2, x3] T (0, 0)) := heap_setCell_same _ g 3 _ T x3 h3
  exact h4
theorem line_cells {w : World} {g : Nat} {T : TypeId} {z0 z1 z2 z3 : Value} (h : w.heap[g]? = some (.cells #[z0, z1, z2, z3] T (0, 0))) : w.cell? ⟨g, 0, none⟩ = some z0 ∧ w.cell? ⟨g, 1, none⟩ = some z1 ∧ w.cell? ⟨g, 2, none⟩ = some z2 ∧ w.cell? ⟨g, 3, none⟩ = some z3 :=
  ⟨cell_of_row w g 0 _ T (0, 0) h, cell_of_row w g 1 _ T (0, 0) h, cell_of_row w g 2 _ T (0, 0) h, cell_of_row w g 3 _ T (0, 0) h⟩

/-- What NodeOf answers of a pair's numbers. -/
def nodeV : Option (List Int × List Int) → Value
  | some (k, v) => .agg #[.int .i64 (k[0]?.getD 0), .int .i64 (k[1]?.getD 0), .int .i64 (v[0]?.getD 0), .int .i64 (v[1]?.getD 0), .int .i64 (v[2]?.getD 0), .bool (v[3]?.getD 0 != 0), .int .i64 (v[4]?.getD 0), .int .i64 (v[5]?.getD 0), .int .i64 (v[6]?.getD 0), .int .i64 (v[7]?.getD 0), .int .i64 (v[8]?.getD 0), .int .i64 (v[9]?.getD 0)]
  | none => .agg #[.int .i64 0, .int .i64 0, .int .i64 0, .int .i64 0, .int .i64 0, .bool false, .int .i64 0, .int .i64 0, .int .i64 0, .int .i64 0, .int .i64 0, .int .i64 0]
theorem node_size : (Tryz.prog.info? 41).map (·.size) = some 12 := by kernel_rfl
theorem node_set {w : World} {g : Nat} {T : TypeId} {z0 z1 z2 z3 z4 z5 z6 z7 z8 z9 z10 z11 : Value} {x0 x1 x2 x3 x4 x5 x6 x7 x8 x9 x10 x11 : Value} (h : w.heap[g]? = some (.cells #[z0, z1, z2, z3, z4, z5, z6, z7, z8, z9, z10, z11] T (0, 0))) : ((((((((((((w.setCell ⟨g, 0, none⟩ x0).setCell ⟨g, 1, none⟩ x1).setCell ⟨g, 2, none⟩ x2).setCell ⟨g, 3, none⟩ x3).setCell ⟨g, 4, none⟩ x4).setCell ⟨g, 5, none⟩ x5).setCell ⟨g, 6, none⟩ x6).setCell ⟨g, 7, none⟩ x7).setCell ⟨g, 8, none⟩ x8).setCell ⟨g, 9, none⟩ x9).setCell ⟨g, 10, none⟩ x10).setCell ⟨g, 11, none⟩ x11).heap[g]? = some (.cells #[x0, x1, x2, x3, x4, x5, x6, x7, x8, x9, x10, x11] T (0, 0)) := by
  have h1 : (w.setCell ⟨g, 0, none⟩ x0).heap[g]? = some (.cells #[x0, z1, z2, z3, z4, z5, z6, z7, z8, z9, z10, z11] T (0, 0)) := heap_setCell_same _ g 0 _ T x0 h
  have h2 : ((w.setCell ⟨g, 0, none⟩ x0).setCell ⟨g, 1, none⟩ x1).heap[g]? = some (.cells #[x0, x1, z2, z3, z4, z5, z6, z7, z8, z9, z10, z11] T (0, 0)) := heap_setCell_same _ g 1 _ T x1 h1
  have h3 : (((w.setCell ⟨g, 0, none⟩ x0).setCell ⟨g, 1, none⟩ x1).setCell ⟨g, 2, none⟩ x2).heap[g]? = some (.cells #[x0, x1, x2, z3, z4, z5, z6, z7, z8, z9, z10, z11] T (0, 0)) := heap_setCell_same _ g 2 _ T x2 h2
  have h4 : ((((w.setCell ⟨g, 0, none⟩ x0).setCell ⟨g, 1, none⟩ x1).setCell ⟨g, 2, none⟩ x2).setCell ⟨g, 3, none⟩ x3).heap[g]? = some (.cells #[x0, x1, x2, x3, z4, z5, z6, z7, z8, z9, z10, z11] T (0, 0)) := heap_setCell_same _ g 3 _ T x3 h3
  have h5 : (((((w.setCell ⟨g, 0, none⟩ x0).setCell ⟨g, 1, none⟩ x1).setCell ⟨g, 2, none⟩ x2).setCell ⟨g, 3, none⟩ x3).setCell ⟨g, 4, none⟩ x4).heap[g]? = some (.cells #[x0, x1, x2, x3, x4, z5, z6, z7, z8, z9, z10, z11] T (0, 0)) := heap_setCell_same _ g 4 _ T x4 h4
  have h6 : ((((((w.setCell ⟨g, 0, none⟩ x0).setCell ⟨g, 1, none⟩ x1).setCell ⟨g, 2, none⟩ x2).setCell ⟨g, 3, none⟩ x3).setCell ⟨g, 4, none⟩ x4).setCell ⟨g, 5, none⟩ x5).heap[g]? = some (.cells #[x0, x1, x2, x3, x4, x5, z6, z7, z8, z9, z10, z11] T (0, 0)) := heap_setCell_same _ g 5 _ T x5 h5
  have h7 : (((((((w.setCell ⟨g, 0, none⟩ x0).setCell ⟨g, 1, none⟩ x1).setCell ⟨g, 2, none⟩ x2).setCell ⟨g, 3, none⟩ x3).setCell ⟨g, 4, none⟩ x4).setCell ⟨g, 5, none⟩ x5).setCell ⟨g, 6, none⟩ x6).heap[g]? = some (.cells #[x0, x1, x2, x3, x4, x5, x6, z7, z8, z9, z10, z11] T (0, 0)) := heap_setCell_same _ g 6 _ T x6 h6
  have h8 : ((((((((w.setCell ⟨g, 0, none⟩ x0).setCell ⟨g, 1, none⟩ x1).setCell ⟨g, 2, none⟩ x2).setCell ⟨g, 3, none⟩ x3).setCell ⟨g, 4, none⟩ x4).setCell ⟨g, 5, none⟩ x5).setCell ⟨g, 6, none⟩ x6).setCell ⟨g, 7, none⟩ x7).heap[g]? = some (.cells #[x0, x1, x2, x3, x4, x5, x6, x7, z8, z9, z10, z11] T (0, 0)) := heap_setCell_same _ g 7 _ T x7 h7
  have h9 : (((((((((w.setCell ⟨g, 0, none⟩ x0).setCell ⟨g, 1, none⟩ x1).setCell ⟨g, 2, none⟩ x2).setCell ⟨g, 3, none⟩ x3).setCell ⟨g, 4, none⟩ x4).setCell ⟨g, 5, none⟩ x5).setCell ⟨g, 6, none⟩ x6).setCell ⟨g, 7, none⟩ x7).setCell ⟨g, 8, none⟩ x8).heap[g]? = some (.cells #[x0, x1, x2, x3, x4, x5, x6, x7, x8, z9, z10, z11] T (0, 0)) := heap_setCell_same _ g 8 _ T x8 h8
  have h10 : ((((((((((w.setCell ⟨g, 0, none⟩ x0).setCell ⟨g, 1, none⟩ x1).setCell ⟨g, 2, none⟩ x2).setCell ⟨g, 3, none⟩ x3).setCell ⟨g, 4, none⟩ x4).setCell ⟨g, 5, none⟩ x5).setCell ⟨g, 6, none⟩ x6).setCell ⟨g, 7, none⟩ x7).setCell ⟨g, 8, none⟩ x8).setCell ⟨g, 9, none⟩ x9).heap[g]? = some (.cells #[x0, x1, x2, x3, x4, x5, x6, x7, x8, x9, z10, z11] T (0, 0)) := heap_setCell_same _ g 9 _ T x9 h9
  have h11 : (((((((((((w.setCell ⟨g, 0, none⟩ x0).setCell ⟨g, 1, none⟩ x1).setCell ⟨g, 2, none⟩ x2).setCell ⟨g, 3, none⟩ x3).setCell ⟨g, 4, none⟩ x4).setCell ⟨g, 5, none⟩ x5).setCell ⟨g, 6, none⟩ x6).setCell ⟨g, 7, none⟩ x7).setCell ⟨g, 8, none⟩ x8).setCell ⟨g, 9, none⟩ x9).setCell ⟨g, 10, none⟩ x10).heap[g]? = some (.cells #[x0, x1, x2, x3, x4, x5, x6, x7, x8, x9, x10, z11] T (0, 0)) := heap_setCell_same _ g 10 _ T x10 h10
  have h12 : ((((((((((((w.setCell ⟨g, 0, none⟩ x0).setCell ⟨g, 1, none⟩ x1).setCell ⟨g, 2, none⟩ x2).setCell ⟨g, 3, none⟩ x3).setCell ⟨g, 4, none⟩ x4).setCell ⟨g, 5, none⟩ x5).setCell ⟨g, 6, none⟩ x6).setCell ⟨g, 7, none⟩ x7).setCell ⟨g, 8, none⟩ x8).setCell ⟨g, 9, none⟩ x9).setCell ⟨g, 10, none⟩ x10).setCell ⟨g, 11, none⟩ x11).heap[g]? = some (.cells #[x0, x1, x2, x3, x4, x5, x6, x7, x8, x9, x10, x11] T (0, 0)) := heap_setCell_same _ g 11 _ T x11 h11
  exact h12
theorem node_cells {w : World} {g : Nat} {T : TypeId} {z0 z1 z2 z3 z4 z5 z6 z7 z8 z9 z10 z11 : Value} (h : w.heap[g]? = some (.cells #[z0, z1, z2, z3, z4, z5, z6, z7, z8, z9, z10, z11] T (0, 0))) : w.cell? ⟨g, 0, none⟩ = some z0 ∧ w.cell? ⟨g, 1, none⟩ = some z1 ∧ w.cell? ⟨g, 2, none⟩ = some z2 ∧ w.cell? ⟨g, 3, none⟩ = some z3 ∧ w.cell? ⟨g, 4, none⟩ = some z4 ∧ w.cell? ⟨g, 5, none⟩ = some z5 ∧ w.cell? ⟨g, 6, none⟩ = some z6 ∧ w.cell? ⟨g, 7, none⟩ = some z7 ∧ w.cell? ⟨g, 8, none⟩ = some z8 ∧ w.cell? ⟨g, 9, none⟩ = some z9 ∧ w.cell? ⟨g, 10, none⟩ = some z10 ∧ w.cell? ⟨g, 11, none⟩ = some z11 :=
  ⟨cell_of_row w g 0 _ T (0, 0) h, cell_of_row w g 1 _ T (0, 0) h, cell_of_row w g 2 _ T (0, 0) h, cell_of_row w g 3 _ T (0, 0) h, cell_of_row w g 4 _ T (0, 0) h, cell_of_row w g 5 _ T (0, 0) h, cell_of_row w g 6 _ T (0, 0) h, cell_of_row w g 7 _ T (0, 0) h, cell_of_row w g 8 _ T (0, 0) h, cell_of_row w g 9 _ T (0, 0) h, cell_of_row w g 10 _ T (0, 0) h, cell_of_row w g 11 _ T (0, 0) h⟩

/-- What DocOf answers of a pair's numbers. -/
def docV : Option (List Int × List Int) → Value
  | some (k, v) => .agg #[.int .i64 (k[0]?.getD 0), .int .i64 (v[0]?.getD 0), .int .i64 (v[1]?.getD 0), .int .i64 (v[2]?.getD 0), .int .i64 (v[3]?.getD 0)]
  | none => .agg #[.int .i64 0, .int .i64 0, .int .i64 0, .int .i64 0, .int .i64 0]
theorem doc_size : (Tryz.prog.info? 66).map (·.size) = some 5 := by kernel_rfl
theorem doc_set {w : World} {g : Nat} {T : TypeId} {z0 z1 z2 z3 z4 : Value} {x0 x1 x2 x3 x4 : Value} (h : w.heap[g]? = some (.cells #[z0, z1, z2, z3, z4] T (0, 0))) : (((((w.setCell ⟨g, 0, none⟩ x0).setCell ⟨g, 1, none⟩ x1).setCell ⟨g, 2, none⟩ x2).setCell ⟨g, 3, none⟩ x3).setCell ⟨g, 4, none⟩ x4).heap[g]? = some (.cells #[x0, x1, x2, x3, x4] T (0, 0)) := by
  have h1 : (w.setCell ⟨g, 0, none⟩ x0).heap[g]? = some (.cells #[x0, z1, z2, z3, z4] T (0, 0)) := heap_setCell_same _ g 0 _ T x0 h
  have h2 : ((w.setCell ⟨g, 0, none⟩ x0).setCell ⟨g, 1, none⟩ x1).heap[g]? = some (.cells #[x0, x1, z2, z3, z4] T (0, 0)) := heap_setCell_same _ g 1 _ T x1 h1
  have h3 : (((w.setCell ⟨g, 0, none⟩ x0).setCell ⟨g, 1, none⟩ x1).setCell ⟨g, 2, none⟩ x2).heap[g]? = some (.cells #[x0, x1, x2, z3, z4] T (0, 0)) := heap_setCell_same _ g 2 _ T x2 h2
  have h4 : ((((w.setCell ⟨g, 0, none⟩ x0).setCell ⟨g, 1, none⟩ x1).setCell ⟨g, 2, none⟩ x2).setCell ⟨g, 3, none⟩ x3).heap[g]? = some (.cells #[x0, x1, x2, x3, z4] T (0, 0)) := heap_setCell_same _ g 3 _ T x3 h3
  have h5 : (((((w.setCell ⟨g, 0, none⟩ x0).setCell ⟨g, 1, none⟩ x1).setCell ⟨g, 2, none⟩ x2).setCell ⟨g, 3, none⟩ x3).setCell ⟨g, 4, none⟩ x4).heap[g]? = some (.cells #[x0, x1, x2, x3, x4] T (0, 0)) := heap_setCell_same _ g 4 _ T x4 h4
  exact h5
theorem doc_cells {w : World} {g : Nat} {T : TypeId} {z0 z1 z2 z3 z4 : Value} (h : w.heap[g]? = some (.cells #[z0, z1, z2, z3, z4] T (0, 0))) : w.cell? ⟨g, 0, none⟩ = some z0 ∧ w.cell? ⟨g, 1, none⟩ = some z1 ∧ w.cell? ⟨g, 2, none⟩ = some z2 ∧ w.cell? ⟨g, 3, none⟩ = some z3 ∧ w.cell? ⟨g, 4, none⟩ = some z4 :=
  ⟨cell_of_row w g 0 _ T (0, 0) h, cell_of_row w g 1 _ T (0, 0) h, cell_of_row w g 2 _ T (0, 0) h, cell_of_row w g 3 _ T (0, 0) h, cell_of_row w g 4 _ T (0, 0) h⟩

set_option maxHeartbeats 3200000 in
theorem recDocLineOf_any (ka : Option Addr) (kn kc : Nat) (va : Option Addr) (vn vc : Nat) (p : KV) (B : Nat) (w : World) (hk : RB w B ka kn p.1) (hv : RB w B va vn p.2) (hB : B ≤ w.heap.size) (hkc : kn ≤ kc) (hvc : vn ≤ vc) (hkm : kn ≤ maxLen) (hvm : vn ≤ maxLen) :
    Calls Tryz.prog 62 #[.agg #[.slice ka kn kc, .slice va vn vc]] w fun e w' => e = .returned (.tuple #[docLineV (numsR p 76 2 4), .bool (numsR p 76 2 4).isSome]) ∧ Below w.heap.size w w' := by
  obtain ⟨w1, hw1⟩ : ∃ w1, w1 = ((w.alloc (.cells #[.slice ka kn kc, .slice va vn vc] 111)).alloc (.cells #[.int .i64 0, .int .i64 0, .int .i64 0, .int .i64 0] 58)) := ⟨_, rfl⟩
  have hb1 : Below w.heap.size w w1 := by rw [hw1]; exact ((Below.refl _ _).alloc (Nat.le_refl _) _).alloc (by simp) _
  have g0 : w1.heap[w.heap.size]? = some (.cells #[.slice ka kn kc, .slice va vn vc] 111 (0, 0)) := by rw [hw1]; exact (((Below.refl (w.alloc _).heap.size _).alloc (Nat.le_refl _) _).block _ (by simp)).trans (heap_alloc_new _ _)
  have g1 : w1.heap[w.heap.size + 1]? = some (.cells #[.int .i64 0, .int .i64 0, .int .i64 0, .int .i64 0] 58 (0, 0)) := by rw [hw1]; exact heap_alloc2_new _ _ _
  have hs1 : w1.heap.size = w.heap.size + 2 := by rw [hw1]; simp
  have c0 := box_cell0 g0
  have c1 := box_cell1 g0
  have HS := Lib.hid (numbers_any ka kn kc va vn vc p 76 2 4 B w1 (hk.below (hb1.mono hB)) (hv.below (hb1.mono hB)) (Nat.le_trans hB hb1.size) hkc hvc hkm hvm (by omega) (by omega) (by omega))
  go_enter Tryz.func62, Tryz.ntmps62
  go_wp2_with fail
  rw [← hw1]
  clear hw1
  go_wp2_with fail
  refine HS.out.mono ?_
  clear HS
  rintro e w2 ⟨A, n, c, A', n', c', ok, rfl, hb2, hok, hri⟩
  have hb2' := hb1.trans (hb2.mono hb1.size)
  have gz := (hb2.block (w.heap.size + 1) (by omega)).trans g1
  have HZ := Lib.hid (fun (W : World) (h : W.heap[w.heap.size + 1]? = w2.heap[w.heap.size + 1]?) => h.trans gz)
  have hs2 : w.heap.size + 1 < w2.heap.size := (Array.getElem?_eq_some_iff.1 gz).1
  clear c0 c1 g0 g1 hk hv
  generalize hnr : numsR p 76 2 4 = r at hok hri
  have HNR := Lib.hid hnr
  clear hnr
  cases r with
  | none =>
    obtain rfl : ok = false := hok
    obtain ⟨z0, z1, z2, z3⟩ := docLine_cells (HZ.out w2 rfl)
    have f0 := box_frozen (o := 0) (HZ.out w2 rfl)
    have f1 := box_frozen (o := 1) (HZ.out w2 rfl)
    have f2 := box_frozen (o := 2) (HZ.out w2 rfl)
    have f3 := box_frozen (o := 3) (HZ.out w2 rfl)
    have HG := Lib.hid (docLine_set (x0 := .int .i64 0) (x1 := .int .i64 0) (x2 := .int .i64 0) (x3 := .int .i64 0) (HZ.out w2 rfl))
    have HB := Lib.hid ((below_box (g := w.heap.size + 1) (below_box (g := w.heap.size + 1) (below_box (g := w.heap.size + 1) (below_box (g := w.heap.size + 1) hb2' (Nat.le_succ _) 0 (.int .i64 0)) (Nat.le_succ _) 1 (.int .i64 0)) (Nat.le_succ _) 2 (.int .i64 0)) (Nat.le_succ _) 3 (.int .i64 0)))
    clear hri hb2 hb2' gz hb1 hs1 hs2
    go_wp2_with fail
    refine bodyPost_ret (results_ct rfl _ (w.heap.size + 1) _ rfl (run_loadVar_row _ _ _ _ _ (0, 0) _ HG.out Tryz.underlying58 rfl docLine_size)) rfl ?_
    rw [HNR.out]
    exact ⟨rfl, HB.out⟩
  | some kv =>
    obtain ⟨k, v⟩ := kv
    obtain rfl : ok = true := hok
    obtain ⟨rfl, rfl, hrk, hrv⟩ := hri k v rfl
    obtain ⟨bk, ok, rfl, hbk, hck⟩ := hrk.2.2 (by omega)
    obtain ⟨bv, ov, rfl, hbv, hcv⟩ := hrv.2.2 (by omega)
    obtain ⟨s0, s1, s2, s3⟩ : w2.cell? ⟨bv, ov, none⟩ = some (.int .i64 (v[0]?.getD 0)) ∧ w2.cell? ⟨bv, ov + 1, none⟩ = some (.int .i64 (v[1]?.getD 0)) ∧ w2.cell? ⟨bv, ov + 2, none⟩ = some (.int .i64 (v[2]?.getD 0)) ∧ w2.cell? ⟨bv, ov + 3, none⟩ = some (.int .i64 (v[3]?.getD 0)) := ⟨by simpa using hcv 0 (by omega), by simpa using hcv 1 (by omega), by simpa using hcv 2 (by omega), by simpa using hcv 3 (by omega)⟩
    have HT : Hid (w2.drew.cell? ⟨bv, ov, none⟩ = some (.int .i64 (v[0]?.getD 0)) ∧ w2.drew.cell? ⟨bv, ov + 1, none⟩ = some (.int .i64 (v[1]?.getD 0)) ∧ w2.drew.cell? ⟨bv, ov + 2, none⟩ = some (.int .i64 (v[2]?.getD 0)) ∧ w2.drew.cell? ⟨bv, ov + 3, none⟩ = some (.int .i64 (v[3]?.getD 0))) := Lib.hid ⟨s0, s1, s2, s3⟩
    have HG := Lib.hid (docLine_set (x0 := .int .i64 (v[0]?.getD 0)) (x1 := .int .i64 (v[1]?.getD 0)) (x2 := .int .i64 (v[2]?.getD 0)) (x3 := .int .i64 (v[3]?.getD 0)) (HZ.out w2.drew rfl))
    have HB := Lib.hid ((below_box (g := w.heap.size + 1) (below_box (g := w.heap.size + 1) (below_box (g := w.heap.size + 1) (below_box (g := w.heap.size + 1) hb2'.drew (Nat.le_succ _) 0 (.int .i64 (v[0]?.getD 0))) (Nat.le_succ _) 1 (.int .i64 (v[1]?.getD 0))) (Nat.le_succ _) 2 (.int .i64 (v[2]?.getD 0))) (Nat.le_succ _) 3 (.int .i64 (v[3]?.getD 0))))
    have HZ3 := Lib.hid (HZ.out w2.drew rfl)
    clear hri hb2 hb2' gz hb1 hs1 hs2 hrk hrv hck hcv
    go_wp2_with fail
    go_still_tail 13, (by kernel_rfl)
    change wpList _ _ _ _ _ w2.drew
    obtain ⟨w3, hw3⟩ : ∃ w3 : World, w3 = w2.drew := ⟨_, rfl⟩
    rw [← hw3] at HT HG HB HZ3 ⊢
    clear hw3 s0 s1 s2 s3 HZ
    obtain ⟨s0, s1, s2, s3⟩ := HT.out
    obtain ⟨z0, z1, z2, z3⟩ := docLine_cells HZ3.out
    have f0 := box_frozen (o := 0) HZ3.out
    have f1 := box_frozen (o := 1) HZ3.out
    have f2 := box_frozen (o := 2) HZ3.out
    have f3 := box_frozen (o := 3) HZ3.out
    go_wp2_with fail
    refine bodyPost_ret (results_ct rfl _ (w.heap.size + 1) _ rfl (run_loadVar_row _ _ _ _ _ (0, 0) _ HG.out Tryz.underlying58 rfl docLine_size)) rfl ?_
    rw [HNR.out]
    exact ⟨rfl, HB.out⟩

set_option maxHeartbeats 3200000 in
theorem refDocLineOf_any (ka : Option Addr) (kn kc : Nat) (va : Option Addr) (vn vc : Nat) (p : KV) (B : Nat) (w : World) (hk : RB w B ka kn p.1) (hv : RB w B va vn p.2) (hB : B ≤ w.heap.size) (hkc : kn ≤ kc) (hvc : vn ≤ vc) (hkm : kn ≤ maxLen) (hvm : vn ≤ maxLen) :
    Calls Tryz.prog 141 #[.agg #[.slice ka kn kc, .slice va vn vc]] w fun e w' => e = .returned (.tuple #[docLineV (numsR p 76 2 4), .bool (numsR p 76 2 4).isSome]) ∧ Below w.heap.size w w' := by
  obtain ⟨w1, hw1⟩ : ∃ w1, w1 = ((w.alloc (.cells #[.slice ka kn kc, .slice va vn vc] 111)).alloc (.cells #[.int .i64 0, .int .i64 0, .int .i64 0, .int .i64 0] 58)) := ⟨_, rfl⟩
  have hb1 : Below w.heap.size w w1 := by rw [hw1]; exact ((Below.refl _ _).alloc (Nat.le_refl _) _).alloc (by simp) _
  have g0 : w1.heap[w.heap.size]? = some (.cells #[.slice ka kn kc, .slice va vn vc] 111 (0, 0)) := by rw [hw1]; exact (((Below.refl (w.alloc _).heap.size _).alloc (Nat.le_refl _) _).block _ (by simp)).trans (heap_alloc_new _ _)
  have g1 : w1.heap[w.heap.size + 1]? = some (.cells #[.int .i64 0, .int .i64 0, .int .i64 0, .int .i64 0] 58 (0, 0)) := by rw [hw1]; exact heap_alloc2_new _ _ _
  have hs1 : w1.heap.size = w.heap.size + 2 := by rw [hw1]; simp
  have c0 := box_cell0 g0
  have c1 := box_cell1 g0
  have HS := Lib.hid (both_any ka kn kc va vn vc p 76 2 4 B w1 (hk.below (hb1.mono hB)) (hv.below (hb1.mono hB)) (Nat.le_trans hB hb1.size) hkc hvc hkm hvm (by omega) (by omega) (by omega))
  go_enter Tryz.func141, Tryz.ntmps141
  go_wp2_with fail
  rw [← hw1]
  clear hw1
  go_wp2_with fail
  refine HS.out.mono ?_
  clear HS
  rintro e w2 ⟨A, n, c, A', n', c', ok, rfl, hb2, hok, hri⟩
  have hb2' := hb1.trans (hb2.mono hb1.size)
  have gz := (hb2.block (w.heap.size + 1) (by omega)).trans g1
  have HZ := Lib.hid (fun (W : World) (h : W.heap[w.heap.size + 1]? = w2.heap[w.heap.size + 1]?) => h.trans gz)
  have hs2 : w.heap.size + 1 < w2.heap.size := (Array.getElem?_eq_some_iff.1 gz).1
  clear c0 c1 g0 g1 hk hv
  generalize hnr : numsR p 76 2 4 = r at hok hri
  have HNR := Lib.hid hnr
  clear hnr
  cases r with
  | none =>
    obtain rfl : ok = false := hok
    obtain ⟨z0, z1, z2, z3⟩ := docLine_cells (HZ.out w2 rfl)
    have f0 := box_frozen (o := 0) (HZ.out w2 rfl)
    have f1 := box_frozen (o := 1) (HZ.out w2 rfl)
    have f2 := box_frozen (o := 2) (HZ.out w2 rfl)
    have f3 := box_frozen (o := 3) (HZ.out w2 rfl)
    have HG := Lib.hid (docLine_set (x0 := .int .i64 0) (x1 := .int .i64 0) (x2 := .int .i64 0) (x3 := .int .i64 0) (HZ.out w2 rfl))
    have HB := Lib.hid ((below_box (g := w.heap.size + 1) (below_box (g := w.heap.size + 1) (below_box (g := w.heap.size + 1) (below_box (g := w.heap.size + 1) hb2' (Nat.le_succ _) 0 (.int .i64 0)) (Nat.le_succ _) 1 (.int .i64 0)) (Nat.le_succ _) 2 (.int .i64 0)) (Nat.le_succ _) 3 (.int .i64 0)))
    clear hri hb2 hb2' gz hb1 hs1 hs2
    go_wp2_with fail
    refine bodyPost_ret (results_ct rfl _ (w.heap.size + 1) _ rfl (run_loadVar_row _ _ _ _ _ (0, 0) _ HG.out Tryz.underlying58 rfl docLine_size)) rfl ?_
    rw [HNR.out]
    exact ⟨rfl, HB.out⟩
  | some kv =>
    obtain ⟨k, v⟩ := kv
    obtain rfl : ok = true := hok
    obtain ⟨rfl, rfl, hrk, hrv⟩ := hri k v rfl
    obtain ⟨bk, ok, rfl, hbk, hck⟩ := hrk.2.2 (by omega)
    obtain ⟨bv, ov, rfl, hbv, hcv⟩ := hrv.2.2 (by omega)
    obtain ⟨s0, s1, s2, s3⟩ : w2.cell? ⟨bv, ov, none⟩ = some (.int .i64 (v[0]?.getD 0)) ∧ w2.cell? ⟨bv, ov + 1, none⟩ = some (.int .i64 (v[1]?.getD 0)) ∧ w2.cell? ⟨bv, ov + 2, none⟩ = some (.int .i64 (v[2]?.getD 0)) ∧ w2.cell? ⟨bv, ov + 3, none⟩ = some (.int .i64 (v[3]?.getD 0)) := ⟨by simpa using hcv 0 (by omega), by simpa using hcv 1 (by omega), by simpa using hcv 2 (by omega), by simpa using hcv 3 (by omega)⟩
    have HT : Hid (w2.drew.cell? ⟨bv, ov, none⟩ = some (.int .i64 (v[0]?.getD 0)) ∧ w2.drew.cell? ⟨bv, ov + 1, none⟩ = some (.int .i64 (v[1]?.getD 0)) ∧ w2.drew.cell? ⟨bv, ov + 2, none⟩ = some (.int .i64 (v[2]?.getD 0)) ∧ w2.drew.cell? ⟨bv, ov + 3, none⟩ = some (.int .i64 (v[3]?.getD 0))) := Lib.hid ⟨s0, s1, s2, s3⟩
    have HG := Lib.hid (docLine_set (x0 := .int .i64 (v[0]?.getD 0)) (x1 := .int .i64 (v[1]?.getD 0)) (x2 := .int .i64 (v[2]?.getD 0)) (x3 := .int .i64 (v[3]?.getD 0)) (HZ.out w2.drew rfl))
    have HB := Lib.hid ((below_box (g := w.heap.size + 1) (below_box (g := w.heap.size + 1) (below_box (g := w.heap.size + 1) (below_box (g := w.heap.size + 1) hb2'.drew (Nat.le_succ _) 0 (.int .i64 (v[0]?.getD 0))) (Nat.le_succ _) 1 (.int .i64 (v[1]?.getD 0))) (Nat.le_succ _) 2 (.int .i64 (v[2]?.getD 0))) (Nat.le_succ _) 3 (.int .i64 (v[3]?.getD 0))))
    have HZ3 := Lib.hid (HZ.out w2.drew rfl)
    clear hri hb2 hb2' gz hb1 hs1 hs2 hrk hrv hck hcv
    go_wp2_with fail
    go_still_tail 13, (by kernel_rfl)
    change wpList _ _ _ _ _ w2.drew
    obtain ⟨w3, hw3⟩ : ∃ w3 : World, w3 = w2.drew := ⟨_, rfl⟩
    rw [← hw3] at HT HG HB HZ3 ⊢
    clear hw3 s0 s1 s2 s3 HZ
    obtain ⟨s0, s1, s2, s3⟩ := HT.out
    obtain ⟨z0, z1, z2, z3⟩ := docLine_cells HZ3.out
    have f0 := box_frozen (o := 0) HZ3.out
    have f1 := box_frozen (o := 1) HZ3.out
    have f2 := box_frozen (o := 2) HZ3.out
    have f3 := box_frozen (o := 3) HZ3.out
    go_wp2_with fail
    refine bodyPost_ret (results_ct rfl _ (w.heap.size + 1) _ rfl (run_loadVar_row _ _ _ _ _ (0, 0) _ HG.out Tryz.underlying58 rfl docLine_size)) rfl ?_
    rw [HNR.out]
    exact ⟨rfl, HB.out⟩

set_option maxHeartbeats 3200000 in
theorem recNodeOf_any (ka : Option Addr) (kn kc : Nat) (va : Option Addr) (vn vc : Nat) (p : KV) (B : Nat) (w : World) (hk : RB w B ka kn p.1) (hv : RB w B va vn p.2) (hB : B ≤ w.heap.size) (hkc : kn ≤ kc) (hvc : vn ≤ vc) (hkm : kn ≤ maxLen) (hvm : vn ≤ maxLen) :
    Calls Tryz.prog 94 #[.agg #[.slice ka kn kc, .slice va vn vc]] w fun e w' => e = .returned (.tuple #[nodeV (numsR p 78 2 10), .bool (numsR p 78 2 10).isSome]) ∧ Below w.heap.size w w' := by
  obtain ⟨w1, hw1⟩ : ∃ w1, w1 = ((w.alloc (.cells #[.slice ka kn kc, .slice va vn vc] 111)).alloc (.cells #[.int .i64 0, .int .i64 0, .int .i64 0, .int .i64 0, .int .i64 0, .bool false, .int .i64 0, .int .i64 0, .int .i64 0, .int .i64 0, .int .i64 0, .int .i64 0] 41)) := ⟨_, rfl⟩
  have hb1 : Below w.heap.size w w1 := by rw [hw1]; exact ((Below.refl _ _).alloc (Nat.le_refl _) _).alloc (by simp) _
  have g0 : w1.heap[w.heap.size]? = some (.cells #[.slice ka kn kc, .slice va vn vc] 111 (0, 0)) := by rw [hw1]; exact (((Below.refl (w.alloc _).heap.size _).alloc (Nat.le_refl _) _).block _ (by simp)).trans (heap_alloc_new _ _)
  have g1 : w1.heap[w.heap.size + 1]? = some (.cells #[.int .i64 0, .int .i64 0, .int .i64 0, .int .i64 0, .int .i64 0, .bool false, .int .i64 0, .int .i64 0, .int .i64 0, .int .i64 0, .int .i64 0, .int .i64 0] 41 (0, 0)) := by rw [hw1]; exact heap_alloc2_new _ _ _
  have hs1 : w1.heap.size = w.heap.size + 2 := by rw [hw1]; simp
  have c0 := box_cell0 g0
  have c1 := box_cell1 g0
  have HS := Lib.hid (numbers_any ka kn kc va vn vc p 78 2 10 B w1 (hk.below (hb1.mono hB)) (hv.below (hb1.mono hB)) (Nat.le_trans hB hb1.size) hkc hvc hkm hvm (by omega) (by omega) (by omega))
  go_enter Tryz.func94, Tryz.ntmps94
  go_wp2_with fail
  rw [← hw1]
  clear hw1
  go_wp2_with fail
  refine HS.out.mono ?_
  clear HS
  rintro e w2 ⟨A, n, c, A', n', c', ok, rfl, hb2, hok, hri⟩
  have hb2' := hb1.trans (hb2.mono hb1.size)
  have gz := (hb2.block (w.heap.size + 1) (by omega)).trans g1
  have HZ := Lib.hid (fun (W : World) (h : W.heap[w.heap.size + 1]? = w2.heap[w.heap.size + 1]?) => h.trans gz)
  have hs2 : w.heap.size + 1 < w2.heap.size := (Array.getElem?_eq_some_iff.1 gz).1
  clear c0 c1 g0 g1 hk hv
  generalize hnr : numsR p 78 2 10 = r at hok hri
  have HNR := Lib.hid hnr
  clear hnr
  cases r with
  | none =>
    obtain rfl : ok = false := hok
    obtain ⟨z0, z1, z2, z3, z4, z5, z6, z7, z8, z9, z10, z11⟩ := node_cells (HZ.out w2 rfl)
    have f0 := box_frozen (o := 0) (HZ.out w2 rfl)
    have f1 := box_frozen (o := 1) (HZ.out w2 rfl)
    have f2 := box_frozen (o := 2) (HZ.out w2 rfl)
    have f3 := box_frozen (o := 3) (HZ.out w2 rfl)
    have f4 := box_frozen (o := 4) (HZ.out w2 rfl)
    have f5 := box_frozen (o := 5) (HZ.out w2 rfl)
    have f6 := box_frozen (o := 6) (HZ.out w2 rfl)
    have f7 := box_frozen (o := 7) (HZ.out w2 rfl)
    have f8 := box_frozen (o := 8) (HZ.out w2 rfl)
    have f9 := box_frozen (o := 9) (HZ.out w2 rfl)
    have f10 := box_frozen (o := 10) (HZ.out w2 rfl)
    have f11 := box_frozen (o := 11) (HZ.out w2 rfl)
    have HG := Lib.hid (node_set (x0 := .int .i64 0) (x1 := .int .i64 0) (x2 := .int .i64 0) (x3 := .int .i64 0) (x4 := .int .i64 0) (x5 := .bool false) (x6 := .int .i64 0) (x7 := .int .i64 0) (x8 := .int .i64 0) (x9 := .int .i64 0) (x10 := .int .i64 0) (x11 := .int .i64 0) (HZ.out w2 rfl))
    have HB := Lib.hid ((below_box (g := w.heap.size + 1) (below_box (g := w.heap.size + 1) (below_box (g := w.heap.size + 1) (below_box (g := w.heap.size + 1) (below_box (g := w.heap.size + 1) (below_box (g := w.heap.size + 1) (below_box (g := w.heap.size + 1) (below_box (g := w.heap.size + 1) (below_box (g := w.heap.size + 1) (below_box (g := w.heap.size + 1) (below_box (g := w.heap.size + 1) (below_box (g := w.heap.size + 1) hb2' (Nat.le_succ _) 0 (.int .i64 0)) (Nat.le_succ _) 1 (.int .i64 0)) (Nat.le_succ _) 2 (.int .i64 0)) (Nat.le_succ _) 3 (.int .i64 0)) (Nat.le_succ _) 4 (.int .i64 0)) (Nat.le_succ _) 5 (.bool false)) (Nat.le_succ _) 6 (.int .i64 0)) (Nat.le_succ _) 7 (.int .i64 0)) (Nat.le_succ _) 8 (.int .i64 0)) (Nat.le_succ _) 9 (.int .i64 0)) (Nat.le_succ _) 10 (.int .i64 0)) (Nat.le_succ _) 11 (.int .i64 0)))
    clear hri hb2 hb2' gz hb1 hs1 hs2
    go_wp2_with fail
    refine bodyPost_ret (results_ct rfl _ (w.heap.size + 1) _ rfl (run_loadVar_row _ _ _ _ _ (0, 0) _ HG.out Tryz.underlying41 rfl node_size)) rfl ?_
    rw [HNR.out]
    exact ⟨rfl, HB.out⟩
  | some kv =>
    obtain ⟨k, v⟩ := kv
    obtain rfl : ok = true := hok
    obtain ⟨rfl, rfl, hrk, hrv⟩ := hri k v rfl
    obtain ⟨bk, ok, rfl, hbk, hck⟩ := hrk.2.2 (by omega)
    obtain ⟨bv, ov, rfl, hbv, hcv⟩ := hrv.2.2 (by omega)
    obtain ⟨s0, s1, s2, s3, s4, s5, s6, s7, s8, s9, s10, s11⟩ : w2.cell? ⟨bk, ok, none⟩ = some (.int .i64 (k[0]?.getD 0)) ∧ w2.cell? ⟨bk, ok + 1, none⟩ = some (.int .i64 (k[1]?.getD 0)) ∧ w2.cell? ⟨bv, ov, none⟩ = some (.int .i64 (v[0]?.getD 0)) ∧ w2.cell? ⟨bv, ov + 1, none⟩ = some (.int .i64 (v[1]?.getD 0)) ∧ w2.cell? ⟨bv, ov + 2, none⟩ = some (.int .i64 (v[2]?.getD 0)) ∧ w2.cell? ⟨bv, ov + 3, none⟩ = some (.int .i64 (v[3]?.getD 0)) ∧ w2.cell? ⟨bv, ov + 4, none⟩ = some (.int .i64 (v[4]?.getD 0)) ∧ w2.cell? ⟨bv, ov + 5, none⟩ = some (.int .i64 (v[5]?.getD 0)) ∧ w2.cell? ⟨bv, ov + 6, none⟩ = some (.int .i64 (v[6]?.getD 0)) ∧ w2.cell? ⟨bv, ov + 7, none⟩ = some (.int .i64 (v[7]?.getD 0)) ∧ w2.cell? ⟨bv, ov + 8, none⟩ = some (.int .i64 (v[8]?.getD 0)) ∧ w2.cell? ⟨bv, ov + 9, none⟩ = some (.int .i64 (v[9]?.getD 0)) := ⟨by simpa using hck 0 (by omega), by simpa using hck 1 (by omega), by simpa using hcv 0 (by omega), by simpa using hcv 1 (by omega), by simpa using hcv 2 (by omega), by simpa using hcv 3 (by omega), by simpa using hcv 4 (by omega), by simpa using hcv 5 (by omega), by simpa using hcv 6 (by omega), by simpa using hcv 7 (by omega), by simpa using hcv 8 (by omega), by simpa using hcv 9 (by omega)⟩
    have HT : Hid (w2.drew.cell? ⟨bk, ok, none⟩ = some (.int .i64 (k[0]?.getD 0)) ∧ w2.drew.cell? ⟨bk, ok + 1, none⟩ = some (.int .i64 (k[1]?.getD 0)) ∧ w2.drew.cell? ⟨bv, ov, none⟩ = some (.int .i64 (v[0]?.getD 0)) ∧ w2.drew.cell? ⟨bv, ov + 1, none⟩ = some (.int .i64 (v[1]?.getD 0)) ∧ w2.drew.cell? ⟨bv, ov + 2, none⟩ = some (.int .i64 (v[2]?.getD 0)) ∧ w2.drew.cell? ⟨bv, ov + 3, none⟩ = some (.int .i64 (v[3]?.getD 0)) ∧ w2.drew.cell? ⟨bv, ov + 4, none⟩ = some (.int .i64 (v[4]?.getD 0)) ∧ w2.drew.cell? ⟨bv, ov + 5, none⟩ = some (.int .i64 (v[5]?.getD 0)) ∧ w2.drew.cell? ⟨bv, ov + 6, none⟩ = some (.int .i64 (v[6]?.getD 0)) ∧ w2.drew.cell? ⟨bv, ov + 7, none⟩ = some (.int .i64 (v[7]?.getD 0)) ∧ w2.drew.cell? ⟨bv, ov + 8, none⟩ = some (.int .i64 (v[8]?.getD 0)) ∧ w2.drew.cell? ⟨bv, ov + 9, none⟩ = some (.int .i64 (v[9]?.getD 0))) := Lib.hid ⟨s0, s1, s2, s3, s4, s5, s6, s7, s8, s9, s10, s11⟩
    have HG := Lib.hid (node_set (x0 := .int .i64 (k[0]?.getD 0)) (x1 := .int .i64 (k[1]?.getD 0)) (x2 := .int .i64 (v[0]?.getD 0)) (x3 := .int .i64 (v[1]?.getD 0)) (x4 := .int .i64 (v[2]?.getD 0)) (x5 := .bool (v[3]?.getD 0 != 0)) (x6 := .int .i64 (v[4]?.getD 0)) (x7 := .int .i64 (v[5]?.getD 0)) (x8 := .int .i64 (v[6]?.getD 0)) (x9 := .int .i64 (v[7]?.getD 0)) (x10 := .int .i64 (v[8]?.getD 0)) (x11 := .int .i64 (v[9]?.getD 0)) (HZ.out w2.drew rfl))
    have HB := Lib.hid ((below_box (g := w.heap.size + 1) (below_box (g := w.heap.size + 1) (below_box (g := w.heap.size + 1) (below_box (g := w.heap.size + 1) (below_box (g := w.heap.size + 1) (below_box (g := w.heap.size + 1) (below_box (g := w.heap.size + 1) (below_box (g := w.heap.size + 1) (below_box (g := w.heap.size + 1) (below_box (g := w.heap.size + 1) (below_box (g := w.heap.size + 1) (below_box (g := w.heap.size + 1) hb2'.drew (Nat.le_succ _) 0 (.int .i64 (k[0]?.getD 0))) (Nat.le_succ _) 1 (.int .i64 (k[1]?.getD 0))) (Nat.le_succ _) 2 (.int .i64 (v[0]?.getD 0))) (Nat.le_succ _) 3 (.int .i64 (v[1]?.getD 0))) (Nat.le_succ _) 4 (.int .i64 (v[2]?.getD 0))) (Nat.le_succ _) 5 (.bool (v[3]?.getD 0 != 0))) (Nat.le_succ _) 6 (.int .i64 (v[4]?.getD 0))) (Nat.le_succ _) 7 (.int .i64 (v[5]?.getD 0))) (Nat.le_succ _) 8 (.int .i64 (v[6]?.getD 0))) (Nat.le_succ _) 9 (.int .i64 (v[7]?.getD 0))) (Nat.le_succ _) 10 (.int .i64 (v[8]?.getD 0))) (Nat.le_succ _) 11 (.int .i64 (v[9]?.getD 0))))
    have HZ3 := Lib.hid (HZ.out w2.drew rfl)
    clear hri hb2 hb2' gz hb1 hs1 hs2 hrk hrv hck hcv
    go_wp2_with fail
    go_still_tail 38, (by kernel_rfl)
    change wpList _ _ _ _ _ w2.drew
    obtain ⟨w3, hw3⟩ : ∃ w3 : World, w3 = w2.drew := ⟨_, rfl⟩
    rw [← hw3] at HT HG HB HZ3 ⊢
    clear hw3 s0 s1 s2 s3 s4 s5 s6 s7 s8 s9 s10 s11 HZ
    obtain ⟨s0, s1, s2, s3, s4, s5, s6, s7, s8, s9, s10, s11⟩ := HT.out
    obtain ⟨z0, z1, z2, z3, z4, z5, z6, z7, z8, z9, z10, z11⟩ := node_cells HZ3.out
    have f0 := box_frozen (o := 0) HZ3.out
    have f1 := box_frozen (o := 1) HZ3.out
    have f2 := box_frozen (o := 2) HZ3.out
    have f3 := box_frozen (o := 3) HZ3.out
    have f4 := box_frozen (o := 4) HZ3.out
    have f5 := box_frozen (o := 5) HZ3.out
    have f6 := box_frozen (o := 6) HZ3.out
    have f7 := box_frozen (o := 7) HZ3.out
    have f8 := box_frozen (o := 8) HZ3.out
    have f9 := box_frozen (o := 9) HZ3.out
    have f10 := box_frozen (o := 10) HZ3.out
    have f11 := box_frozen (o := 11) HZ3.out
    go_wp2_with fail
    refine bodyPost_ret (results_ct rfl _ (w.heap.size + 1) _ rfl (run_loadVar_row _ _ _ _ _ (0, 0) _ HG.out Tryz.underlying41 rfl node_size)) rfl ?_
    rw [HNR.out]
    exact ⟨rfl, HB.out⟩

set_option maxHeartbeats 3200000 in
theorem refNodeOf_any (ka : Option Addr) (kn kc : Nat) (va : Option Addr) (vn vc : Nat) (p : KV) (B : Nat) (w : World) (hk : RB w B ka kn p.1) (hv : RB w B va vn p.2) (hB : B ≤ w.heap.size) (hkc : kn ≤ kc) (hvc : vn ≤ vc) (hkm : kn ≤ maxLen) (hvm : vn ≤ maxLen) :
    Calls Tryz.prog 172 #[.agg #[.slice ka kn kc, .slice va vn vc]] w fun e w' => e = .returned (.tuple #[nodeV (numsR p 78 2 10), .bool (numsR p 78 2 10).isSome]) ∧ Below w.heap.size w w' := by
  obtain ⟨w1, hw1⟩ : ∃ w1, w1 = ((w.alloc (.cells #[.slice ka kn kc, .slice va vn vc] 111)).alloc (.cells #[.int .i64 0, .int .i64 0, .int .i64 0, .int .i64 0, .int .i64 0, .bool false, .int .i64 0, .int .i64 0, .int .i64 0, .int .i64 0, .int .i64 0, .int .i64 0] 41)) := ⟨_, rfl⟩
  have hb1 : Below w.heap.size w w1 := by rw [hw1]; exact ((Below.refl _ _).alloc (Nat.le_refl _) _).alloc (by simp) _
  have g0 : w1.heap[w.heap.size]? = some (.cells #[.slice ka kn kc, .slice va vn vc] 111 (0, 0)) := by rw [hw1]; exact (((Below.refl (w.alloc _).heap.size _).alloc (Nat.le_refl _) _).block _ (by simp)).trans (heap_alloc_new _ _)
  have g1 : w1.heap[w.heap.size + 1]? = some (.cells #[.int .i64 0, .int .i64 0, .int .i64 0, .int .i64 0, .int .i64 0, .bool false, .int .i64 0, .int .i64 0, .int .i64 0, .int .i64 0, .int .i64 0, .int .i64 0] 41 (0, 0)) := by rw [hw1]; exact heap_alloc2_new _ _ _
  have hs1 : w1.heap.size = w.heap.size + 2 := by rw [hw1]; simp
  have c0 := box_cell0 g0
  have c1 := box_cell1 g0
  have HS := Lib.hid (both_any ka kn kc va vn vc p 78 2 10 B w1 (hk.below (hb1.mono hB)) (hv.below (hb1.mono hB)) (Nat.le_trans hB hb1.size) hkc hvc hkm hvm (by omega) (by omega) (by omega))
  go_enter Tryz.func172, Tryz.ntmps172
  go_wp2_with fail
  rw [← hw1]
  clear hw1
  go_wp2_with fail
  refine HS.out.mono ?_
  clear HS
  rintro e w2 ⟨A, n, c, A', n', c', ok, rfl, hb2, hok, hri⟩
  have hb2' := hb1.trans (hb2.mono hb1.size)
  have gz := (hb2.block (w.heap.size + 1) (by omega)).trans g1
  have HZ := Lib.hid (fun (W : World) (h : W.heap[w.heap.size + 1]? = w2.heap[w.heap.size + 1]?) => h.trans gz)
  have hs2 : w.heap.size + 1 < w2.heap.size := (Array.getElem?_eq_some_iff.1 gz).1
  clear c0 c1 g0 g1 hk hv
  generalize hnr : numsR p 78 2 10 = r at hok hri
  have HNR := Lib.hid hnr
  clear hnr
  cases r with
  | none =>
    obtain rfl : ok = false := hok
    obtain ⟨z0, z1, z2, z3, z4, z5, z6, z7, z8, z9, z10, z11⟩ := node_cells (HZ.out w2 rfl)
    have f0 := box_frozen (o := 0) (HZ.out w2 rfl)
    have f1 := box_frozen (o := 1) (HZ.out w2 rfl)
    have f2 := box_frozen (o := 2) (HZ.out w2 rfl)
    have f3 := box_frozen (o := 3) (HZ.out w2 rfl)
    have f4 := box_frozen (o := 4) (HZ.out w2 rfl)
    have f5 := box_frozen (o := 5) (HZ.out w2 rfl)
    have f6 := box_frozen (o := 6) (HZ.out w2 rfl)
    have f7 := box_frozen (o := 7) (HZ.out w2 rfl)
    have f8 := box_frozen (o := 8) (HZ.out w2 rfl)
    have f9 := box_frozen (o := 9) (HZ.out w2 rfl)
    have f10 := box_frozen (o := 10) (HZ.out w2 rfl)
    have f11 := box_frozen (o := 11) (HZ.out w2 rfl)
    have HG := Lib.hid (node_set (x0 := .int .i64 0) (x1 := .int .i64 0) (x2 := .int .i64 0) (x3 := .int .i64 0) (x4 := .int .i64 0) (x5 := .bool false) (x6 := .int .i64 0) (x7 := .int .i64 0) (x8 := .int .i64 0) (x9 := .int .i64 0) (x10 := .int .i64 0) (x11 := .int .i64 0) (HZ.out w2 rfl))
    have HB := Lib.hid ((below_box (g := w.heap.size + 1) (below_box (g := w.heap.size + 1) (below_box (g := w.heap.size + 1) (below_box (g := w.heap.size + 1) (below_box (g := w.heap.size + 1) (below_box (g := w.heap.size + 1) (below_box (g := w.heap.size + 1) (below_box (g := w.heap.size + 1) (below_box (g := w.heap.size + 1) (below_box (g := w.heap.size + 1) (below_box (g := w.heap.size + 1) (below_box (g := w.heap.size + 1) hb2' (Nat.le_succ _) 0 (.int .i64 0)) (Nat.le_succ _) 1 (.int .i64 0)) (Nat.le_succ _) 2 (.int .i64 0)) (Nat.le_succ _) 3 (.int .i64 0)) (Nat.le_succ _) 4 (.int .i64 0)) (Nat.le_succ _) 5 (.bool false)) (Nat.le_succ _) 6 (.int .i64 0)) (Nat.le_succ _) 7 (.int .i64 0)) (Nat.le_succ _) 8 (.int .i64 0)) (Nat.le_succ _) 9 (.int .i64 0)) (Nat.le_succ _) 10 (.int .i64 0)) (Nat.le_succ _) 11 (.int .i64 0)))
    clear hri hb2 hb2' gz hb1 hs1 hs2
    go_wp2_with fail
    refine bodyPost_ret (results_ct rfl _ (w.heap.size + 1) _ rfl (run_loadVar_row _ _ _ _ _ (0, 0) _ HG.out Tryz.underlying41 rfl node_size)) rfl ?_
    rw [HNR.out]
    exact ⟨rfl, HB.out⟩
  | some kv =>
    obtain ⟨k, v⟩ := kv
    obtain rfl : ok = true := hok
    obtain ⟨rfl, rfl, hrk, hrv⟩ := hri k v rfl
    obtain ⟨bk, ok, rfl, hbk, hck⟩ := hrk.2.2 (by omega)
    obtain ⟨bv, ov, rfl, hbv, hcv⟩ := hrv.2.2 (by omega)
    obtain ⟨s0, s1, s2, s3, s4, s5, s6, s7, s8, s9, s10, s11⟩ : w2.cell? ⟨bk, ok, none⟩ = some (.int .i64 (k[0]?.getD 0)) ∧ w2.cell? ⟨bk, ok + 1, none⟩ = some (.int .i64 (k[1]?.getD 0)) ∧ w2.cell? ⟨bv, ov, none⟩ = some (.int .i64 (v[0]?.getD 0)) ∧ w2.cell? ⟨bv, ov + 1, none⟩ = some (.int .i64 (v[1]?.getD 0)) ∧ w2.cell? ⟨bv, ov + 2, none⟩ = some (.int .i64 (v[2]?.getD 0)) ∧ w2.cell? ⟨bv, ov + 3, none⟩ = some (.int .i64 (v[3]?.getD 0)) ∧ w2.cell? ⟨bv, ov + 4, none⟩ = some (.int .i64 (v[4]?.getD 0)) ∧ w2.cell? ⟨bv, ov + 5, none⟩ = some (.int .i64 (v[5]?.getD 0)) ∧ w2.cell? ⟨bv, ov + 6, none⟩ = some (.int .i64 (v[6]?.getD 0)) ∧ w2.cell? ⟨bv, ov + 7, none⟩ = some (.int .i64 (v[7]?.getD 0)) ∧ w2.cell? ⟨bv, ov + 8, none⟩ = some (.int .i64 (v[8]?.getD 0)) ∧ w2.cell? ⟨bv, ov + 9, none⟩ = some (.int .i64 (v[9]?.getD 0)) := ⟨by simpa using hck 0 (by omega), by simpa using hck 1 (by omega), by simpa using hcv 0 (by omega), by simpa using hcv 1 (by omega), by simpa using hcv 2 (by omega), by simpa using hcv 3 (by omega), by simpa using hcv 4 (by omega), by simpa using hcv 5 (by omega), by simpa using hcv 6 (by omega), by simpa using hcv 7 (by omega), by simpa using hcv 8 (by omega), by simpa using hcv 9 (by omega)⟩
    have HT : Hid (w2.drew.cell? ⟨bk, ok, none⟩ = some (.int .i64 (k[0]?.getD 0)) ∧ w2.drew.cell? ⟨bk, ok + 1, none⟩ = some (.int .i64 (k[1]?.getD 0)) ∧ w2.drew.cell? ⟨bv, ov, none⟩ = some (.int .i64 (v[0]?.getD 0)) ∧ w2.drew.cell? ⟨bv, ov + 1, none⟩ = some (.int .i64 (v[1]?.getD 0)) ∧ w2.drew.cell? ⟨bv, ov + 2, none⟩ = some (.int .i64 (v[2]?.getD 0)) ∧ w2.drew.cell? ⟨bv, ov + 3, none⟩ = some (.int .i64 (v[3]?.getD 0)) ∧ w2.drew.cell? ⟨bv, ov + 4, none⟩ = some (.int .i64 (v[4]?.getD 0)) ∧ w2.drew.cell? ⟨bv, ov + 5, none⟩ = some (.int .i64 (v[5]?.getD 0)) ∧ w2.drew.cell? ⟨bv, ov + 6, none⟩ = some (.int .i64 (v[6]?.getD 0)) ∧ w2.drew.cell? ⟨bv, ov + 7, none⟩ = some (.int .i64 (v[7]?.getD 0)) ∧ w2.drew.cell? ⟨bv, ov + 8, none⟩ = some (.int .i64 (v[8]?.getD 0)) ∧ w2.drew.cell? ⟨bv, ov + 9, none⟩ = some (.int .i64 (v[9]?.getD 0))) := Lib.hid ⟨s0, s1, s2, s3, s4, s5, s6, s7, s8, s9, s10, s11⟩
    have HG := Lib.hid (node_set (x0 := .int .i64 (k[0]?.getD 0)) (x1 := .int .i64 (k[1]?.getD 0)) (x2 := .int .i64 (v[0]?.getD 0)) (x3 := .int .i64 (v[1]?.getD 0)) (x4 := .int .i64 (v[2]?.getD 0)) (x5 := .bool (v[3]?.getD 0 != 0)) (x6 := .int .i64 (v[4]?.getD 0)) (x7 := .int .i64 (v[5]?.getD 0)) (x8 := .int .i64 (v[6]?.getD 0)) (x9 := .int .i64 (v[7]?.getD 0)) (x10 := .int .i64 (v[8]?.getD 0)) (x11 := .int .i64 (v[9]?.getD 0)) (HZ.out w2.drew rfl))
    have HB := Lib.hid ((below_box (g := w.heap.size + 1) (below_box (g := w.heap.size + 1) (below_box (g := w.heap.size + 1) (below_box (g := w.heap.size + 1) (below_box (g := w.heap.size + 1) (below_box (g := w.heap.size + 1) (below_box (g := w.heap.size + 1) (below_box (g := w.heap.size + 1) (below_box (g := w.heap.size + 1) (below_box (g := w.heap.size + 1) (below_box (g := w.heap.size + 1) (below_box (g := w.heap.size + 1) hb2'.drew (Nat.le_succ _) 0 (.int .i64 (k[0]?.getD 0))) (Nat.le_succ _) 1 (.int .i64 (k[1]?.getD 0))) (Nat.le_succ _) 2 (.int .i64 (v[0]?.getD 0))) (Nat.le_succ _) 3 (.int .i64 (v[1]?.getD 0))) (Nat.le_succ _) 4 (.int .i64 (v[2]?.getD 0))) (Nat.le_succ _) 5 (.bool (v[3]?.getD 0 != 0))) (Nat.le_succ _) 6 (.int .i64 (v[4]?.getD 0))) (Nat.le_succ _) 7 (.int .i64 (v[5]?.getD 0))) (Nat.le_succ _) 8 (.int .i64 (v[6]?.getD 0))) (Nat.le_succ _) 9 (.int .i64 (v[7]?.getD 0))) (Nat.le_succ _) 10 (.int .i64 (v[8]?.getD 0))) (Nat.le_succ _) 11 (.int .i64 (v[9]?.getD 0))))
    have HZ3 := Lib.hid (HZ.out w2.drew rfl)
    clear hri hb2 hb2' gz hb1 hs1 hs2 hrk hrv hck hcv
    go_wp2_with fail
    go_still_tail 38, (by kernel_rfl)
    change wpList _ _ _ _ _ w2.drew
    obtain ⟨w3, hw3⟩ : ∃ w3 : World, w3 = w2.drew := ⟨_, rfl⟩
    rw [← hw3] at HT HG HB HZ3 ⊢
    clear hw3 s0 s1 s2 s3 s4 s5 s6 s7 s8 s9 s10 s11 HZ
    obtain ⟨s0, s1, s2, s3, s4, s5, s6, s7, s8, s9, s10, s11⟩ := HT.out
    obtain ⟨z0, z1, z2, z3, z4, z5, z6, z7, z8, z9, z10, z11⟩ := node_cells HZ3.out
    have f0 := box_frozen (o := 0) HZ3.out
    have f1 := box_frozen (o := 1) HZ3.out
    have f2 := box_frozen (o := 2) HZ3.out
    have f3 := box_frozen (o := 3) HZ3.out
    have f4 := box_frozen (o := 4) HZ3.out
    have f5 := box_frozen (o := 5) HZ3.out
    have f6 := box_frozen (o := 6) HZ3.out
    have f7 := box_frozen (o := 7) HZ3.out
    have f8 := box_frozen (o := 8) HZ3.out
    have f9 := box_frozen (o := 9) HZ3.out
    have f10 := box_frozen (o := 10) HZ3.out
    have f11 := box_frozen (o := 11) HZ3.out
    go_wp2_with fail
    refine bodyPost_ret (results_ct rfl _ (w.heap.size + 1) _ rfl (run_loadVar_row _ _ _ _ _ (0, 0) _ HG.out Tryz.underlying41 rfl node_size)) rfl ?_
    rw [HNR.out]
    exact ⟨rfl, HB.out⟩

set_option maxHeartbeats 3200000 in
theorem recDocOf_any (ka : Option Addr) (kn kc : Nat) (va : Option Addr) (vn vc : Nat) (p : KV) (B : Nat) (w : World) (hk : RB w B ka kn p.1) (hv : RB w B va vn p.2) (hB : B ≤ w.heap.size) (hkc : kn ≤ kc) (hvc : vn ≤ vc) (hkm : kn ≤ maxLen) (hvm : vn ≤ maxLen) :
    Calls Tryz.prog 60 #[.agg #[.slice ka kn kc, .slice va vn vc]] w fun e w' => e = .returned (.tuple #[docV (numsR p 68 1 4), .bool (numsR p 68 1 4).isSome]) ∧ Below w.heap.size w w' := by
  obtain ⟨w1, hw1⟩ : ∃ w1, w1 = ((w.alloc (.cells #[.slice ka kn kc, .slice va vn vc] 111)).alloc (.cells #[.int .i64 0, .int .i64 0, .int .i64 0, .int .i64 0, .int .i64 0] 66)) := ⟨_, rfl⟩
  have hb1 : Below w.heap.size w w1 := by rw [hw1]; exact ((Below.refl _ _).alloc (Nat.le_refl _) _).alloc (by simp) _
  have g0 : w1.heap[w.heap.size]? = some (.cells #[.slice ka kn kc, .slice va vn vc] 111 (0, 0)) := by rw [hw1]; exact (((Below.refl (w.alloc _).heap.size _).alloc (Nat.le_refl _) _).block _ (by simp)).trans (heap_alloc_new _ _)
  have g1 : w1.heap[w.heap.size + 1]? = some (.cells #[.int .i64 0, .int .i64 0, .int .i64 0, .int .i64 0, .int .i64 0] 66 (0, 0)) := by rw [hw1]; exact heap_alloc2_new _ _ _
  have hs1 : w1.heap.size = w.heap.size + 2 := by rw [hw1]; simp
  have c0 := box_cell0 g0
  have c1 := box_cell1 g0
  have HS := Lib.hid (numbers_any ka kn kc va vn vc p 68 1 4 B w1 (hk.below (hb1.mono hB)) (hv.below (hb1.mono hB)) (Nat.le_trans hB hb1.size) hkc hvc hkm hvm (by omega) (by omega) (by omega))
  go_enter Tryz.func60, Tryz.ntmps60
  go_wp2_with fail
  rw [← hw1]
  clear hw1
  go_wp2_with fail
  refine HS.out.mono ?_
  clear HS
  rintro e w2 ⟨A, n, c, A', n', c', ok, rfl, hb2, hok, hri⟩
  have hb2' := hb1.trans (hb2.mono hb1.size)
  have gz := (hb2.block (w.heap.size + 1) (by omega)).trans g1
  have HZ := Lib.hid (fun (W : World) (h : W.heap[w.heap.size + 1]? = w2.heap[w.heap.size + 1]?) => h.trans gz)
  have hs2 : w.heap.size + 1 < w2.heap.size := (Array.getElem?_eq_some_iff.1 gz).1
  clear c0 c1 g0 g1 hk hv
  generalize hnr : numsR p 68 1 4 = r at hok hri
  have HNR := Lib.hid hnr
  clear hnr
  cases r with
  | none =>
    obtain rfl : ok = false := hok
    obtain ⟨z0, z1, z2, z3, z4⟩ := doc_cells (HZ.out w2 rfl)
    have f0 := box_frozen (o := 0) (HZ.out w2 rfl)
    have f1 := box_frozen (o := 1) (HZ.out w2 rfl)
    have f2 := box_frozen (o := 2) (HZ.out w2 rfl)
    have f3 := box_frozen (o := 3) (HZ.out w2 rfl)
    have f4 := box_frozen (o := 4) (HZ.out w2 rfl)
    have HG := Lib.hid (doc_set (x0 := .int .i64 0) (x1 := .int .i64 0) (x2 := .int .i64 0) (x3 := .int .i64 0) (x4 := .int .i64 0) (HZ.out w2 rfl))
    have HB := Lib.hid ((below_box (g := w.heap.size + 1) (below_box (g := w.heap.size + 1) (below_box (g := w.heap.size + 1) (below_box (g := w.heap.size + 1) (below_box (g := w.heap.size + 1) hb2' (Nat.le_succ _) 0 (.int .i64 0)) (Nat.le_succ _) 1 (.int .i64 0)) (Nat.le_succ _) 2 (.int .i64 0)) (Nat.le_succ _) 3 (.int .i64 0)) (Nat.le_succ _) 4 (.int .i64 0)))
    clear hri hb2 hb2' gz hb1 hs1 hs2
    go_wp2_with fail
    refine bodyPost_ret (results_ct rfl _ (w.heap.size + 1) _ rfl (run_loadVar_row _ _ _ _ _ (0, 0) _ HG.out Tryz.underlying66 rfl doc_size)) rfl ?_
    rw [HNR.out]
    exact ⟨rfl, HB.out⟩
  | some kv =>
    obtain ⟨k, v⟩ := kv
    obtain rfl : ok = true := hok
    obtain ⟨rfl, rfl, hrk, hrv⟩ := hri k v rfl
    obtain ⟨bk, ok, rfl, hbk, hck⟩ := hrk.2.2 (by omega)
    obtain ⟨bv, ov, rfl, hbv, hcv⟩ := hrv.2.2 (by omega)
    obtain ⟨s0, s1, s2, s3, s4⟩ : w2.cell? ⟨bk, ok, none⟩ = some (.int .i64 (k[0]?.getD 0)) ∧ w2.cell? ⟨bv, ov, none⟩ = some (.int .i64 (v[0]?.getD 0)) ∧ w2.cell? ⟨bv, ov + 1, none⟩ = some (.int .i64 (v[1]?.getD 0)) ∧ w2.cell? ⟨bv, ov + 2, none⟩ = some (.int .i64 (v[2]?.getD 0)) ∧ w2.cell? ⟨bv, ov + 3, none⟩ = some (.int .i64 (v[3]?.getD 0)) := ⟨by simpa using hck 0 (by omega), by simpa using hcv 0 (by omega), by simpa using hcv 1 (by omega), by simpa using hcv 2 (by omega), by simpa using hcv 3 (by omega)⟩
    have HT : Hid (w2.drew.cell? ⟨bk, ok, none⟩ = some (.int .i64 (k[0]?.getD 0)) ∧ w2.drew.cell? ⟨bv, ov, none⟩ = some (.int .i64 (v[0]?.getD 0)) ∧ w2.drew.cell? ⟨bv, ov + 1, none⟩ = some (.int .i64 (v[1]?.getD 0)) ∧ w2.drew.cell? ⟨bv, ov + 2, none⟩ = some (.int .i64 (v[2]?.getD 0)) ∧ w2.drew.cell? ⟨bv, ov + 3, none⟩ = some (.int .i64 (v[3]?.getD 0))) := Lib.hid ⟨s0, s1, s2, s3, s4⟩
    have HG := Lib.hid (doc_set (x0 := .int .i64 (k[0]?.getD 0)) (x1 := .int .i64 (v[0]?.getD 0)) (x2 := .int .i64 (v[1]?.getD 0)) (x3 := .int .i64 (v[2]?.getD 0)) (x4 := .int .i64 (v[3]?.getD 0)) (HZ.out w2.drew rfl))
    have HB := Lib.hid ((below_box (g := w.heap.size + 1) (below_box (g := w.heap.size + 1) (below_box (g := w.heap.size + 1) (below_box (g := w.heap.size + 1) (below_box (g := w.heap.size + 1) hb2'.drew (Nat.le_succ _) 0 (.int .i64 (k[0]?.getD 0))) (Nat.le_succ _) 1 (.int .i64 (v[0]?.getD 0))) (Nat.le_succ _) 2 (.int .i64 (v[1]?.getD 0))) (Nat.le_succ _) 3 (.int .i64 (v[2]?.getD 0))) (Nat.le_succ _) 4 (.int .i64 (v[3]?.getD 0))))
    have HZ3 := Lib.hid (HZ.out w2.drew rfl)
    clear hri hb2 hb2' gz hb1 hs1 hs2 hrk hrv hck hcv
    go_wp2_with fail
    go_still_tail 16, (by kernel_rfl)
    change wpList _ _ _ _ _ w2.drew
    obtain ⟨w3, hw3⟩ : ∃ w3 : World, w3 = w2.drew := ⟨_, rfl⟩
    rw [← hw3] at HT HG HB HZ3 ⊢
    clear hw3 s0 s1 s2 s3 s4 HZ
    obtain ⟨s0, s1, s2, s3, s4⟩ := HT.out
    obtain ⟨z0, z1, z2, z3, z4⟩ := doc_cells HZ3.out
    have f0 := box_frozen (o := 0) HZ3.out
    have f1 := box_frozen (o := 1) HZ3.out
    have f2 := box_frozen (o := 2) HZ3.out
    have f3 := box_frozen (o := 3) HZ3.out
    have f4 := box_frozen (o := 4) HZ3.out
    go_wp2_with fail
    refine bodyPost_ret (results_ct rfl _ (w.heap.size + 1) _ rfl (run_loadVar_row _ _ _ _ _ (0, 0) _ HG.out Tryz.underlying66 rfl doc_size)) rfl ?_
    rw [HNR.out]
    exact ⟨rfl, HB.out⟩

set_option maxHeartbeats 3200000 in
theorem refDocOf_any (ka : Option Addr) (kn kc : Nat) (va : Option Addr) (vn vc : Nat) (p : KV) (B : Nat) (w : World) (hk : RB w B ka kn p.1) (hv : RB w B va vn p.2) (hB : B ≤ w.heap.size) (hkc : kn ≤ kc) (hvc : vn ≤ vc) (hkm : kn ≤ maxLen) (hvm : vn ≤ maxLen) :
    Calls Tryz.prog 101 #[.agg #[.slice ka kn kc, .slice va vn vc]] w fun e w' => e = .returned (.tuple #[docV (numsR p 68 1 4), .bool (numsR p 68 1 4).isSome]) ∧ Below w.heap.size w w' := by
  obtain ⟨w1, hw1⟩ : ∃ w1, w1 = ((w.alloc (.cells #[.slice ka kn kc, .slice va vn vc] 111)).alloc (.cells #[.int .i64 0, .int .i64 0, .int .i64 0, .int .i64 0, .int .i64 0] 66)) := ⟨_, rfl⟩
  have hb1 : Below w.heap.size w w1 := by rw [hw1]; exact ((Below.refl _ _).alloc (Nat.le_refl _) _).alloc (by simp) _
  have g0 : w1.heap[w.heap.size]? = some (.cells #[.slice ka kn kc, .slice va vn vc] 111 (0, 0)) := by rw [hw1]; exact (((Below.refl (w.alloc _).heap.size _).alloc (Nat.le_refl _) _).block _ (by simp)).trans (heap_alloc_new _ _)
  have g1 : w1.heap[w.heap.size + 1]? = some (.cells #[.int .i64 0, .int .i64 0, .int .i64 0, .int .i64 0, .int .i64 0] 66 (0, 0)) := by rw [hw1]; exact heap_alloc2_new _ _ _
  have hs1 : w1.heap.size = w.heap.size + 2 := by rw [hw1]; simp
  have c0 := box_cell0 g0
  have c1 := box_cell1 g0
  have HS := Lib.hid (both_any ka kn kc va vn vc p 68 1 4 B w1 (hk.below (hb1.mono hB)) (hv.below (hb1.mono hB)) (Nat.le_trans hB hb1.size) hkc hvc hkm hvm (by omega) (by omega) (by omega))
  go_enter Tryz.func101, Tryz.ntmps101
  go_wp2_with fail
  rw [← hw1]
  clear hw1
  go_wp2_with fail
  refine HS.out.mono ?_
  clear HS
  rintro e w2 ⟨A, n, c, A', n', c', ok, rfl, hb2, hok, hri⟩
  have hb2' := hb1.trans (hb2.mono hb1.size)
  have gz := (hb2.block (w.heap.size + 1) (by omega)).trans g1
  have HZ := Lib.hid (fun (W : World) (h : W.heap[w.heap.size + 1]? = w2.heap[w.heap.size + 1]?) => h.trans gz)
  have hs2 : w.heap.size + 1 < w2.heap.size := (Array.getElem?_eq_some_iff.1 gz).1
  clear c0 c1 g0 g1 hk hv
  generalize hnr : numsR p 68 1 4 = r at hok hri
  have HNR := Lib.hid hnr
  clear hnr
  cases r with
  | none =>
    obtain rfl : ok = false := hok
    obtain ⟨z0, z1, z2, z3, z4⟩ := doc_cells (HZ.out w2 rfl)
    have f0 := box_frozen (o := 0) (HZ.out w2 rfl)
    have f1 := box_frozen (o := 1) (HZ.out w2 rfl)
    have f2 := box_frozen (o := 2) (HZ.out w2 rfl)
    have f3 := box_frozen (o := 3) (HZ.out w2 rfl)
    have f4 := box_frozen (o := 4) (HZ.out w2 rfl)
    have HG := Lib.hid (doc_set (x0 := .int .i64 0) (x1 := .int .i64 0) (x2 := .int .i64 0) (x3 := .int .i64 0) (x4 := .int .i64 0) (HZ.out w2 rfl))
    have HB := Lib.hid ((below_box (g := w.heap.size + 1) (below_box (g := w.heap.size + 1) (below_box (g := w.heap.size + 1) (below_box (g := w.heap.size + 1) (below_box (g := w.heap.size + 1) hb2' (Nat.le_succ _) 0 (.int .i64 0)) (Nat.le_succ _) 1 (.int .i64 0)) (Nat.le_succ _) 2 (.int .i64 0)) (Nat.le_succ _) 3 (.int .i64 0)) (Nat.le_succ _) 4 (.int .i64 0)))
    clear hri hb2 hb2' gz hb1 hs1 hs2
    go_wp2_with fail
    refine bodyPost_ret (results_ct rfl _ (w.heap.size + 1) _ rfl (run_loadVar_row _ _ _ _ _ (0, 0) _ HG.out Tryz.underlying66 rfl doc_size)) rfl ?_
    rw [HNR.out]
    exact ⟨rfl, HB.out⟩
  | some kv =>
    obtain ⟨k, v⟩ := kv
    obtain rfl : ok = true := hok
    obtain ⟨rfl, rfl, hrk, hrv⟩ := hri k v rfl
    obtain ⟨bk, ok, rfl, hbk, hck⟩ := hrk.2.2 (by omega)
    obtain ⟨bv, ov, rfl, hbv, hcv⟩ := hrv.2.2 (by omega)
    obtain ⟨s0, s1, s2, s3, s4⟩ : w2.cell? ⟨bk, ok, none⟩ = some (.int .i64 (k[0]?.getD 0)) ∧ w2.cell? ⟨bv, ov, none⟩ = some (.int .i64 (v[0]?.getD 0)) ∧ w2.cell? ⟨bv, ov + 1, none⟩ = some (.int .i64 (v[1]?.getD 0)) ∧ w2.cell? ⟨bv, ov + 2, none⟩ = some (.int .i64 (v[2]?.getD 0)) ∧ w2.cell? ⟨bv, ov + 3, none⟩ = some (.int .i64 (v[3]?.getD 0)) := ⟨by simpa using hck 0 (by omega), by simpa using hcv 0 (by omega), by simpa using hcv 1 (by omega), by simpa using hcv 2 (by omega), by simpa using hcv 3 (by omega)⟩
    have HT : Hid (w2.drew.cell? ⟨bk, ok, none⟩ = some (.int .i64 (k[0]?.getD 0)) ∧ w2.drew.cell? ⟨bv, ov, none⟩ = some (.int .i64 (v[0]?.getD 0)) ∧ w2.drew.cell? ⟨bv, ov + 1, none⟩ = some (.int .i64 (v[1]?.getD 0)) ∧ w2.drew.cell? ⟨bv, ov + 2, none⟩ = some (.int .i64 (v[2]?.getD 0)) ∧ w2.drew.cell? ⟨bv, ov + 3, none⟩ = some (.int .i64 (v[3]?.getD 0))) := Lib.hid ⟨s0, s1, s2, s3, s4⟩
    have HG := Lib.hid (doc_set (x0 := .int .i64 (k[0]?.getD 0)) (x1 := .int .i64 (v[0]?.getD 0)) (x2 := .int .i64 (v[1]?.getD 0)) (x3 := .int .i64 (v[2]?.getD 0)) (x4 := .int .i64 (v[3]?.getD 0)) (HZ.out w2.drew rfl))
    have HB := Lib.hid ((below_box (g := w.heap.size + 1) (below_box (g := w.heap.size + 1) (below_box (g := w.heap.size + 1) (below_box (g := w.heap.size + 1) (below_box (g := w.heap.size + 1) hb2'.drew (Nat.le_succ _) 0 (.int .i64 (k[0]?.getD 0))) (Nat.le_succ _) 1 (.int .i64 (v[0]?.getD 0))) (Nat.le_succ _) 2 (.int .i64 (v[1]?.getD 0))) (Nat.le_succ _) 3 (.int .i64 (v[2]?.getD 0))) (Nat.le_succ _) 4 (.int .i64 (v[3]?.getD 0))))
    have HZ3 := Lib.hid (HZ.out w2.drew rfl)
    clear hri hb2 hb2' gz hb1 hs1 hs2 hrk hrv hck hcv
    go_wp2_with fail
    go_still_tail 16, (by kernel_rfl)
    change wpList _ _ _ _ _ w2.drew
    obtain ⟨w3, hw3⟩ : ∃ w3 : World, w3 = w2.drew := ⟨_, rfl⟩
    rw [← hw3] at HT HG HB HZ3 ⊢
    clear hw3 s0 s1 s2 s3 s4 HZ
    obtain ⟨s0, s1, s2, s3, s4⟩ := HT.out
    obtain ⟨z0, z1, z2, z3, z4⟩ := doc_cells HZ3.out
    have f0 := box_frozen (o := 0) HZ3.out
    have f1 := box_frozen (o := 1) HZ3.out
    have f2 := box_frozen (o := 2) HZ3.out
    have f3 := box_frozen (o := 3) HZ3.out
    have f4 := box_frozen (o := 4) HZ3.out
    go_wp2_with fail
    refine bodyPost_ret (results_ct rfl _ (w.heap.size + 1) _ rfl (run_loadVar_row _ _ _ _ _ (0, 0) _ HG.out Tryz.underlying66 rfl doc_size)) rfl ?_
    rw [HNR.out]
    exact ⟨rfl, HB.out⟩

end Go.Proofs.YtlcbmobdokicaaaGreat
