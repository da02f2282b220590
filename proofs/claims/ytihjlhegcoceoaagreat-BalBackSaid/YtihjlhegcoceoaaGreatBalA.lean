/-
  Contracts of bal over a view in memory: the number that a value is, a balance's key, the balance itself, Get. Condition: which numbers are ints.
-/
import Derived.Test.YtihjlhegcoceoaaGreatViewC
import Derived.Test.YtihjlhegcoceoaaGreatBalP
import Derived.Deep.RegionHeld3
namespace Go.Proofs.YtihjlhegcoceoaaGreat
open Go.RowKit Go.Maps
set_option maxRecDepth 100000
set_option linter.unusedVariables false

abbrev I64 (n : Int) : Prop := -9223372036854775808 ≤ n ∧ n ≤ 9223372036854775807
/-- The number that a value is, and whether it is one. -/
def numB (b : List Int) : Int × Bool := if (unpackR b 1).2 = 0 then ((unpackR b 1).1[0]?.getD 0, true) else (0, false)
theorem numB_one (o : Option (List Int)) : (numB (o.getD [])).1 = seqV o := by
  cases o with
  | none => rfl
  | some b =>
    by_cases h : (unpackR b 1).2 = 0 <;> simp [numB, seqV, h]
set_option maxHeartbeats 1600000 in
theorem numberOf_any {w : World} {A : Option Addr} {n k B : Nat} {b : List Int} (hr : RB w B A n b) (hB : B ≤ w.heap.size) (hk : n ≤ k) (hn : n ≤ maxLen) :
    Calls Tryz.prog 29 #[.slice A n k] w fun e w' => e = .returned (.tuple #[.int .i64 (numB b).1, .bool (numB b).2]) ∧ Below w.heap.size w w' := by
  have HU := Lib.hid (fUnpack_any A n k B b 1 w hr hB hk hn (by omega) (by omega))
  unfold numB
  clear hr
  rcases unpack_one b with ⟨x, hx⟩ | ⟨en, hen, hx⟩
  · rw [hx] at HU
    rw [hx]
    clear hx
    go_enter Tryz.func29, Tryz.ntmps29
    go_wp2_with fail
    refine HU.out.mono ?_
    rintro e w3 ⟨A3, k3, c3, rfl, hk3, _, hr3, hb3⟩
    obtain rfl : 1 = k3 := hr3.len
    obtain ⟨bb, o, rfl, hbb, hc⟩ := hr3.2.2 (by simp)
    have c0 := hc 0 (by simp)
    have HE := Lib.hid hb3
    simp only [Nat.add_zero, List.getElem?_cons_zero, Option.getD_some] at c0
    clear HU hr3 hb3 hc
    go_wp2_with fail
    go_ret2
    exact ⟨rfl, HE.out⟩
  · rw [hx] at HU
    rw [hx]
    have he2 : (en != 0) = true := by simp [hen]
    rw [if_neg (show ¬ en = 0 from hen)]
    clear hx hen
    go_enter Tryz.func29, Tryz.ntmps29
    go_wp2_with fail
    refine HU.out.mono ?_
    rintro e w3 ⟨A3, k3, c3, rfl, hk3, _, hr3, hb3⟩
    have HE := Lib.hid hb3
    clear HU hr3 hb3
    go_wp2_with fail
    go_ret2
    exact ⟨rfl, HE.out⟩
set_option maxHeartbeats 400000 in
theorem balKey_any (A : Option Addr) (n c B : Nat) (l : List Int) (w : World) (hr : RI w B A n l) (hB : B ≤ w.heap.size) (hc : n ≤ c) (hm : n ≤ maxLen) :
    Calls Tryz.prog 24 #[.slice A n c] w fun e w' => ∃ u, e = .returned u ∧ OwnB w w' u (keyL 66 l) := by
  have HK := Lib.hid (kKey_any 66 A n c B l w (by omega) hr hB hc hm)
  clear hr
  go_enter Tryz.func24, Tryz.ntmps24
  go_wp2_with fail
  refine HK.out.mono ?_
  rintro e w2 ⟨u, rfl, ho⟩
  have HE := Lib.hid ho
  clear HK ho
  go_wp2
  go_ret
  exact ⟨_, rfl, HE.out⟩
section
variable {w w' : World} {X : Nat → Prop} {v m c : Nat} {S : VS}
set_option maxHeartbeats 1600000 in
theorem accKey_any (p : Value) (y f o : Int) (w : World) (hy : I64 y) (hf : I64 f) (ho : I64 o) :
    Calls Tryz.prog 28 #[.agg #[p, .int .i64 y, .int .i64 f, .int .i64 o]] w fun e w' => ∃ A c, e = .returned (.slice A 13 c) ∧ 13 ≤ c ∧ RB w' w'.heap.size A 13 (keyL 66 [y, f, o]) ∧ Below w.heap.size w w' := by
  have hb : Below w.heap.size w (((w.alloc (.cells #[p, .int .i64 y, .int .i64 f, .int .i64 o] 49)).alloc (.cells #[.int .i64 y, .int .i64 f, .int .i64 o] 3))) := ((Below.refl _ _).alloc (Nat.le_refl _) _).alloc (by simp) _
  have hz : (w.alloc (.cells #[p, .int .i64 y, .int .i64 f, .int .i64 o] 49)).heap.size = w.heap.size + 1 := by simp
  have hl := one_lit (w.alloc (.cells #[p, .int .i64 y, .int .i64 f, .int .i64 o] 49)) 3 [y, f, o] #[.int .i64 y, .int .i64 f, .int .i64 o] rfl (fun x hx => by
    simp only [List.mem_cons, List.not_mem_nil, or_false] at hx
    rcases hx with rfl | rfl | rfl
    · exact hy
    · exact hf
    · exact ho)
  rw [hz] at hl
  have HK := Lib.hid (balKey_any _ 3 3 _ [y, f, o] _ hl (by simp) (Nat.le_refl _) (by decide))
  have HB := Lib.hid hb
  clear hl hb
  go_enter Tryz.func28, Tryz.ntmps28
  go_wp2_with fail
  refine HK.out.mono ?_
  rintro e w2 ⟨u, rfl, ho⟩
  obtain ⟨A, c, rfl, h1, h2⟩ := ho.read (tagL_bytes (by omega) _)
  have HE := Lib.hid (And.intro h1 (And.intro h2 (HB.out.trans (ho.2.mono HB.out.size))))
  clear HK ho h1 h2 hz
  go_wp2
  go_ret
  have e5 := bKyLen y f o
  obtain ⟨h1, h2, h3⟩ := HE.out
  rw [e5] at h1 h2
  exact ⟨A, c, rfl, h1, h2, h3⟩
/-- An account's four cells in block g. -/
def AccAt (W : World) (g v : Nat) (y f o : Int) : Prop := W.cell? ⟨g, 0, none⟩ = some (.pointer (some ⟨v, 0, none⟩)) ∧ W.cell? ⟨g, 1, none⟩ = some (.int .i64 y) ∧ W.cell? ⟨g, 2, none⟩ = some (.int .i64 f) ∧ W.cell? ⟨g, 3, none⟩ = some (.int .i64 o)
theorem AccAt.made (w : World) (T : TypeId) (v : Nat) (y f o : Int) : AccAt (w.alloc (.cells #[.pointer (some ⟨v, 0, none⟩), .int .i64 y, .int .i64 f, .int .i64 o] T)) w.heap.size v y f o :=
  ⟨cell_of_row _ _ 0 _ _ (0, 0) (heap_alloc_new w _), cell_of_row _ _ 1 _ _ (0, 0) (heap_alloc_new w _), cell_of_row _ _ 2 _ _ (0, 0) (heap_alloc_new w _), cell_of_row _ _ 3 _ _ (0, 0) (heap_alloc_new w _)⟩
theorem AccAt.block {W W' : World} {g v : Nat} {y f o : Int} (h : AccAt W g v y f o) (hb : W'.heap[g]? = W.heap[g]?) : AccAt W' g v y f o :=
  ⟨(World.cell?_of_block (a := ⟨g, 0, none⟩) hb).trans h.1, (World.cell?_of_block (a := ⟨g, 1, none⟩) hb).trans h.2.1, (World.cell?_of_block (a := ⟨g, 2, none⟩) hb).trans h.2.2.1, (World.cell?_of_block (a := ⟨g, 3, none⟩) hb).trans h.2.2.2⟩
theorem AccAt.below {W W' : World} {B g v : Nat} {y f o : Int} (h : AccAt W g v y f o) (hb : Below B W W') (hg : g < B) : AccAt W' g v y f o := h.block (hb.block g hg)
set_option maxHeartbeats 1600000 in
theorem accBal_any (h : ViewAt w X v m c S) (y f o : Int) (hy : I64 y) (hf : I64 f) (ho : I64 o) :
    Calls Tryz.prog 13 #[.agg #[.pointer (some ⟨v, 0, none⟩), .int .i64 y, .int .i64 f, .int .i64 o]] w fun e w' => e = .returned (.int .i64 (seqV (S.now (bKy y f o)))) ∧ Below w.heap.size w w' := by
  obtain ⟨w1, hw1⟩ : ∃ w1, w1 = w.alloc (.cells #[.pointer (some ⟨v, 0, none⟩), .int .i64 y, .int .i64 f, .int .i64 o] 49) := ⟨_, rfl⟩
  have hb1 : Below w.heap.size w w1 := by rw [hw1]; exact (Below.refl _ _).alloc (Nat.le_refl _) _
  have hlt : w.heap.size < w1.drew.heap.size := by rw [hw1]; show w.heap.size < (w.alloc _).heap.size; simp
  have hA : AccAt w1.drew w.heap.size v y f o := by rw [hw1]; exact AccAt.made w _ v y f o
  have hT := hb1.drew
  have h1 : ViewAt w1.drew X v m c S := h.below hb1.drew
  have C5 : Hid (∀ W, Below w1.drew.heap.size w1.drew W → AccAt W w.heap.size v y f o) := Lib.hid fun W hW => hA.below hW hlt
  have c5 : w1.drew.cell? ⟨w.heap.size, 0, none⟩ = some (.pointer (some ⟨v, 0, none⟩)) ∧ w1.drew.cell? ⟨w.heap.size, 1, none⟩ = some (.int .i64 y) ∧ w1.drew.cell? ⟨w.heap.size, 2, none⟩ = some (.int .i64 f) ∧ w1.drew.cell? ⟨w.heap.size, 3, none⟩ = some (.int .i64 o) := hA
  rw [← numB_one]
  clear hA hb1 h
  go_enter Tryz.func13, Tryz.ntmps13
  go_wp2_with fail
  rw [← hw1]
  clear hw1
  go_region_held3 (fun W => W.cell? ⟨w.heap.size, 0, none⟩ = some (.pointer (some ⟨v, 0, none⟩)) ∧ W.cell? ⟨w.heap.size, 1, none⟩ = some (.int .i64 y) ∧ W.cell? ⟨w.heap.size, 2, none⟩ = some (.int .i64 f) ∧ W.cell? ⟨w.heap.size, 3, none⟩ = some (.int .i64 o))
    (first | with_reducible exact c5 | exact c5)
    (first
      | (go_at_call 28; refine Calls.mono (accKey_any _ y f o _ hy hf ho) ?_; rintro e wk ⟨A, k, rfl, hk, hr, hbk⟩; have hg := vGet_any (k := k) (h1.below hbk) hr (Nat.le_refl _) (by decide); have hT := hT.trans (hbk.mono hT.size); have c5 := C5.out _ hbk; have hP := hbk; clear hr hbk)
      | (go_at_call 27; refine Calls.mono hg ?_; rintro e wg ⟨u, rfl, hs, hbg⟩; have hT := hT.trans (hbg.mono hT.size); have c5 := C5.out _ (hP.trans (hbg.mono hP.size)); clear hg hbg))
  obtain ⟨Au, nu, ku, rfl, hu1, hu2, hu3, _⟩ := hs
  have HT := Lib.hid hT
  have HU := Lib.hid (numberOf_any hu3 (Nat.le_refl _) hu1 (Nat.le_trans hu2 (by unfold maxLen; omega)))
  clear hT c5 C5 h1 hP hu1 hu2 hu3
  go_wp2_with fail
  refine HU.out.mono ?_
  rintro e w3 ⟨rfl, hb3⟩
  have HE := Lib.hid (HT.out.trans (hb3.mono HT.out.size))
  clear hb3 HU HT
  go_wp2_with fail
  go_ret
  exact ⟨rfl, HE.out⟩
set_option maxHeartbeats 400000 in
theorem balGet_any (h : ViewAt w X v m c S) (y f o : Int) (hy : I64 y) (hf : I64 f) (ho : I64 o) :
    Calls Tryz.prog 9 #[.pointer (some ⟨v, 0, none⟩), .int .i64 y, .int .i64 f, .int .i64 o] w fun e w' => e = .returned (.int .i64 (seqV (S.now (bKy y f o)))) ∧ Below w.heap.size w w' := by
  have HL := Lib.hid (accBal_any h y f o hy hf ho)
  generalize seqV (S.now (bKy y f o)) = k at HL ⊢
  clear h
  go_enter Tryz.func9, Tryz.ntmps9
  go_wp2_with fail
  refine HL.out.mono ?_
  rintro e w2 ⟨rfl, hb2⟩
  have HE := Lib.hid hb2
  clear hb2 HL
  go_wp2_with fail
  go_ret
  exact ⟨rfl, HE.out⟩
end
end Go.Proofs.YtihjlhegcoceoaaGreat
