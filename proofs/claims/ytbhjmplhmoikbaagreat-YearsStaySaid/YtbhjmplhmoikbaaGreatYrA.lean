/-
  Contracts of years over a view in memory: a year's state, Check, Open, Shut. Condition: which number is an int.
-/
import Derived.Test.YtbhjmplhmoikbaaGreatViewC
import Derived.Test.YtbhjmplhmoikbaaGreatSeqP
import Derived.Test.YtbhjmplhmoikbaaGreatNumsP
import Derived.Deep.RegionHeld3
namespace Go.Proofs.YtbhjmplhmoikbaaGreat
open Go.RowKit Go.Maps
set_option maxRecDepth 100000
set_option linter.unusedVariables false

/-- The state that what stands at a key is. -/
def stV (o : Option (List Int)) : Int := if seqV o = 1 ∨ seqV o = 2 then seqV o else 0
theorem stV_getD (o : Option (List Int)) : stV (some (o.getD [])) = stV o := by
  cases o with
  | none => rfl
  | some b => rfl
theorem stV_three (o : Option (List Int)) : stV o = 0 ∨ stV o = 1 ∨ stV o = 2 := by
  unfold stV
  split
  · rename_i h
    exact .inr h
  · exact .inl rfl
/-- Which years may be; what is wrong with a year. -/
def yearB (n : Int) : Bool := decide (2000 ≤ n) && decide (n ≤ 2099)
def chkE (s : Int) : Int := if s = 1 then 0 else if s = 2 then 13 else 7
abbrev yKey (n : Int) : Txt := tx (keyL 89 [n])
theorem yKeyLen (n : Int) : (keyL 89 [n]).length = 5 := by unfold keyL; rw [tagL_length]; rfl
def openE (o : Option (List Int)) (n : Int) : Int := if yearB n = true then (if stV o = 0 then 0 else 8) else 1
def VS.open_ (S : VS) (n : Int) : VS := if openE (S.now (yKey n)) n = 0 then S.put (yKey n) (packN 8 [1]) else S
def VS.shut (S : VS) (n : Int) : VS := if stV (S.now (yKey n)) = 1 then S.put (yKey n) (packN 8 [2]) else S
set_option maxHeartbeats 400000 in
theorem yRight_any (a : Int) (w : World) : Calls Tryz.prog 26 #[.int .i64 a] w fun e w' => e = .returned (.bool (yearB a)) ∧ w = w' := by
  unfold yearB
  by_cases h : 2000 ≤ a
  · go_enter Tryz.func26, Tryz.ntmps26
    go_wp2
    go_ret
    simp; omega
  · go_enter Tryz.func26, Tryz.ntmps26
    go_wp2
    go_ret
    simp; omega
set_option maxHeartbeats 1600000 in
theorem stateOf_any {w : World} {A : Option Addr} {n k B : Nat} {b : List Int} (hr : RB w B A n b) (hB : B ≤ w.heap.size) (hk : n ≤ k) (hn : n ≤ maxLen) :
    Calls Tryz.prog 54 #[.slice A n k] w fun e w' => e = .returned (.int .i64 (stV (some b))) ∧ Below w.heap.size w w' := by
  have HU := Lib.hid (fUnpack_any A n k B b 1 w hr hB hk hn (by omega) (by omega))
  unfold stV seqV
  clear hr
  rcases unpack_one b with ⟨x, hx⟩ | ⟨en, hen, hx⟩
  · have hv : (match some b with | none => 0 | some b => if (unpackR b 1).2 = 0 then (unpackR b 1).1[0]?.getD 0 else 0 : Int) = x := by simp [hx]
    rw [hx] at HU
    have hv2 : seqV (some b) = x := by simp [seqV, hx]
    have HR := Lib.hid (show (if seqV (some b) = 1 ∨ seqV (some b) = 2 then seqV (some b) else 0) = if x = 1 ∨ x = 2 then x else 0 by rw [hv2])
    have hgoal := HR.out
    unfold seqV at hgoal
    rw [hgoal]
    clear hv hv2 hgoal HR hx
    by_cases h1 : x = 1
    · subst h1
      go_enter Tryz.func54, Tryz.ntmps54
      go_wp2_with fail
      refine HU.out.mono ?_
      rintro e w3 ⟨A3, k3, c3, rfl, hk3, _, hr3, hb3⟩
      obtain rfl : 1 = k3 := hr3.len
      obtain ⟨bb, o, rfl, hbb, hc⟩ := hr3.2.2 (by simp)
      have c0 := hc 0 (by simp)
      have HE := Lib.hid hb3
      simp only [Nat.add_zero, List.getElem?_cons_zero, Option.getD_some] at c0
      clear HU hr3 hb3 hc
      go_wp2_with fail
      go_ret
      exact ⟨rfl, HE.out⟩
    · by_cases h2 : x = 2
      · subst h2
        go_enter Tryz.func54, Tryz.ntmps54
        go_wp2_with fail
        refine HU.out.mono ?_
        rintro e w3 ⟨A3, k3, c3, rfl, hk3, _, hr3, hb3⟩
        obtain rfl : 1 = k3 := hr3.len
        obtain ⟨bb, o, rfl, hbb, hc⟩ := hr3.2.2 (by simp)
        have c0 := hc 0 (by simp)
        have HE := Lib.hid hb3
        simp only [Nat.add_zero, List.getElem?_cons_zero, Option.getD_some] at c0
        clear HU hr3 hb3 hc
        go_wp2_with fail
        go_ret
        exact ⟨rfl, HE.out⟩
      · rw [if_neg (by omega)]
        have e1 : (x == 1) = false := by simp; omega
        have e2 : (x == 2) = false := by simp; omega
        go_enter Tryz.func54, Tryz.ntmps54
        go_wp2_with fail
        refine HU.out.mono ?_
        rintro e w3 ⟨A3, k3, c3, rfl, hk3, _, hr3, hb3⟩
        obtain rfl : 1 = k3 := hr3.len
        obtain ⟨bb, o, rfl, hbb, hc⟩ := hr3.2.2 (by simp)
        have c0 := hc 0 (by simp)
        have HE := Lib.hid hb3
        simp only [Nat.add_zero, List.getElem?_cons_zero, Option.getD_some] at c0
        clear HU hr3 hb3 hc h1 h2
        go_wp2_with fail
        go_ret
        exact ⟨rfl, HE.out⟩
  · have hv2 : seqV (some b) = 0 := by simp [seqV, hx, hen]
    have HR := (show (if seqV (some b) = 1 ∨ seqV (some b) = 2 then seqV (some b) else 0) = 0 by rw [hv2]; rfl)
    unfold seqV at HR
    rw [HR]
    rw [hx] at HU
    have he2 : (en != 0) = true := by simp [hen]
    clear HR hv2 hx hen
    go_enter Tryz.func54, Tryz.ntmps54
    go_wp2_with fail
    refine HU.out.mono ?_
    rintro e w3 ⟨A3, k3, c3, rfl, hk3, _, hr3, hb3⟩
    have HE := Lib.hid hb3
    clear HU hr3 hb3
    go_wp2_with fail
    go_ret
    exact ⟨rfl, HE.out⟩
section
variable {w w' : World} {X : Nat → Prop} {v m c : Nat} {S : VS}
set_option maxHeartbeats 1600000 in
theorem bKey_any (p : Value) (n : Int) (w : World) (hn : -9223372036854775808 ≤ n ∧ n ≤ 9223372036854775807) :
    Calls Tryz.prog 70 #[.agg #[p, .int .i64 n]] w fun e w' => ∃ A c, e = .returned (.slice A 5 c) ∧ 5 ≤ c ∧ RB w' w'.heap.size A 5 (keyL 89 [n]) ∧ Below w.heap.size w w' := by
  have hb : Below w.heap.size w (((w.alloc (.cells #[p, .int .i64 n] 84)).alloc (.cells #[.int .i64 n] 3))) := ((Below.refl _ _).alloc (Nat.le_refl _) _).alloc (by simp) _
  have hz : (w.alloc (.cells #[p, .int .i64 n] 84)).heap.size = w.heap.size + 1 := by simp
  have hl := one_lit (w.alloc (.cells #[p, .int .i64 n] 84)) 3 [n] #[.int .i64 n] rfl (fun x hx => by obtain rfl := List.mem_singleton.1 hx; exact hn)
  rw [hz] at hl
  have HK := Lib.hid (kKey_any 89 _ 1 1 _ [n] _ (by omega) hl (by simp) (Nat.le_refl _) (by decide))
  have HB := Lib.hid hb
  clear hl hb
  go_enter Tryz.func70, Tryz.ntmps70
  go_wp2_with fail
  refine HK.out.mono ?_
  rintro e w2 ⟨u, rfl, ho⟩
  obtain ⟨A, c, rfl, h1, h2⟩ := ho.read (tagL_bytes (by omega) _)
  have HE := Lib.hid (And.intro h1 (And.intro h2 (HB.out.trans (ho.2.mono HB.out.size))))
  clear HK ho h1 h2 hz
  go_wp2
  go_ret
  have e5 := yKeyLen n
  obtain ⟨h1, h2, h3⟩ := HE.out
  rw [e5] at h1 h2
  exact ⟨A, c, rfl, h1, h2, h3⟩
set_option maxHeartbeats 1600000 in
theorem bState_any (h : ViewAt w X v m c S) (n : Int) (hn : -9223372036854775808 ≤ n ∧ n ≤ 9223372036854775807) :
    Calls Tryz.prog 47 #[.agg #[.pointer (some ⟨v, 0, none⟩), .int .i64 n]] w fun e w' => e = .returned (.int .i64 (stV (S.now (yKey n)))) ∧ Below w.heap.size w w' := by
  obtain ⟨w1, hw1⟩ : ∃ w1, w1 = w.alloc (.cells #[.pointer (some ⟨v, 0, none⟩), .int .i64 n] 84) := ⟨_, rfl⟩
  have hb1 : Below w.heap.size w w1 := by rw [hw1]; exact (Below.refl _ _).alloc (Nat.le_refl _) _
  have c0 : w1.drew.cell? ⟨w.heap.size, 0, none⟩ = some (.pointer (some ⟨v, 0, none⟩)) := by rw [hw1]; exact cell_of_row _ _ 0 _ _ (0, 0) (heap_alloc_new w _)
  have c1 : w1.drew.cell? ⟨w.heap.size, 1, none⟩ = some (.int .i64 n) := by rw [hw1]; exact cell_of_row _ _ 1 _ _ (0, 0) (heap_alloc_new w _)
  have hlt : w.heap.size < w1.drew.heap.size := by rw [hw1]; show w.heap.size < (w.alloc _).heap.size; simp
  have hT := hb1.drew
  have h1 : ViewAt w1.drew X v m c S := h.below hb1.drew
  have C5 : Hid (∀ W, Below w1.drew.heap.size w1.drew W → W.cell? ⟨w.heap.size, 0, none⟩ = some (.pointer (some ⟨v, 0, none⟩)) ∧ W.cell? ⟨w.heap.size, 1, none⟩ = some (.int .i64 n)) := Lib.hid fun W hW => ⟨(hW.cell (p := ⟨w.heap.size, 0, none⟩) hlt).trans c0, (hW.cell (p := ⟨w.heap.size, 1, none⟩) hlt).trans c1⟩
  have c5 := C5.out _ (Below.refl _ _)
  rw [← stV_getD]
  clear c0 c1 hb1 h
  go_enter Tryz.func47, Tryz.ntmps47
  go_wp2_with fail
  rw [← hw1]
  clear hw1
  go_region_held3 (fun W => W.cell? ⟨w.heap.size, 0, none⟩ = some (.pointer (some ⟨v, 0, none⟩)) ∧ W.cell? ⟨w.heap.size, 1, none⟩ = some (.int .i64 n))
    (first | with_reducible exact c5 | exact c5)
    (first
      | (go_at_call 70; refine Calls.mono (bKey_any _ n _ hn) ?_; rintro e wk ⟨A, k, rfl, hk, hr, hbk⟩; have hg := vGet_any (k := k) (h1.below hbk) hr (Nat.le_refl _) (by decide); have hT := hT.trans (hbk.mono hT.size); have c5 := C5.out _ hbk; have hP := hbk; clear hr hbk)
      | (go_at_call 60; refine Calls.mono hg ?_; rintro e wg ⟨u, rfl, hs, hbg⟩; have hT := hT.trans (hbg.mono hT.size); have c5 := C5.out _ (hP.trans (hbg.mono hP.size)); clear hg hbg))
  obtain ⟨Au, nu, ku, rfl, hu1, hu2, hu3, _⟩ := hs
  have HT := Lib.hid hT
  have HU := Lib.hid (stateOf_any hu3 (Nat.le_refl _) hu1 (Nat.le_trans hu2 (by unfold maxLen; omega)))
  clear hT c5 C5 h1 hP hu1 hu2 hu3
  go_wp2_with fail
  refine HU.out.mono ?_
  rintro e w3 ⟨rfl, hb3⟩
  have HE := Lib.hid (HT.out.trans (hb3.mono HT.out.size))
  clear hb3 HU HT
  go_wp2_with fail
  go_ret
  exact ⟨rfl, HE.out⟩
set_option maxHeartbeats 400000 in
theorem yState_any (h : ViewAt w X v m c S) (n : Int) (hn : -9223372036854775808 ≤ n ∧ n ≤ 9223372036854775807) :
    Calls Tryz.prog 22 #[.pointer (some ⟨v, 0, none⟩), .int .i64 n] w fun e w' => e = .returned (.int .i64 (stV (S.now (yKey n)))) ∧ Below w.heap.size w w' := by
  have HL := Lib.hid (bState_any h n hn)
  generalize stV (S.now (yKey n)) = k at HL ⊢
  clear h
  go_enter Tryz.func22, Tryz.ntmps22
  go_wp2_with fail
  refine HL.out.mono ?_
  rintro e w2 ⟨rfl, hb2⟩
  have HE := Lib.hid hb2
  clear hb2 HL
  go_wp2_with fail
  go_ret
  exact ⟨rfl, HE.out⟩
set_option maxHeartbeats 800000 in
theorem yCheck_any (h : ViewAt w X v m c S) (n : Int) (hn : -9223372036854775808 ≤ n ∧ n ≤ 9223372036854775807) :
    Calls Tryz.prog 24 #[.pointer (some ⟨v, 0, none⟩), .int .i64 n] w fun e w' => e = .returned (.int .i64 (chkE (stV (S.now (yKey n))))) ∧ Below w.heap.size w w' := by
  have HL := Lib.hid (yState_any h n hn)
  have h3 := stV_three (S.now (yKey n))
  generalize stV (S.now (yKey n)) = k at HL h3 ⊢
  clear h
  rcases h3 with rfl | rfl | rfl <;> (
    go_enter Tryz.func24, Tryz.ntmps24
    go_wp2_with fail
    refine HL.out.mono ?_
    rintro e w2 ⟨rfl, hb2⟩
    have HE := Lib.hid hb2
    clear hb2 HL
    go_wp2_with fail
    go_ret
    exact ⟨rfl, HE.out⟩)
end
end Go.Proofs.YtbhjmplhmoikbaaGreat
