/-
  Walk of RedoWrites, over any disk that answers as it is to: it returns true. Condition: the table that crc.Step reads holds what the program's text lays in it.
-/
import Derived.Test.YtkmlmbakgmafjaaDoorG5
namespace Go.Proofs.YtkmlmbakgmafjaaDoor
open Go.RowKit
set_option maxRecDepth 100000
set_option linter.unusedVariables false

theorem ints_few {N : Nat} {l : List Int} (hn : l.Nodup) (h : ∀ x ∈ l, 0 ≤ x ∧ x < N) : l.length ≤ N := by
  have h1 : (l.map Int.toNat).Nodup := by
    rw [List.nodup_iff_pairwise_ne, List.pairwise_map]
    refine (List.pairwise_iff_getElem.2 fun i j hi hj hij => ?_)
    have h2 := h _ (List.getElem_mem hi)
    have h3 := h _ (List.getElem_mem hj)
    have h4 := (List.pairwise_iff_getElem.1 (List.nodup_iff_pairwise_ne.1 hn)) i j hi hj hij
    omega
  have := nodup_lt N _ h1 (fun x hx => by
    obtain ⟨y, hy, rfl⟩ := List.mem_map.1 hx
    have := h y hy
    omega)
  simpa using this
theorem some_imgs {l : List Int} {c seq : Int} (hl : AllBytes l) (k : Nat) (hs : 0 ≤ seq ∧ seq < 4611686018427387904) : Imgs 27 seq (someAt l c k) := by
  have hp : pagesOf 27 = 13 := by decide
  obtain ⟨h1, h2, h3⟩ := some_facts l c hl k
  refine ⟨fun y hy => ?_, fun y hy => (h1 y hy).2.2.2, h2, ?_, hs.1, hs.2⟩
  · rw [hp]
    exact ⟨(h1 y hy).1, (h1 y hy).2.1, (h1 y hy).2.2.1⟩
  · rw [hp]
    have := ints_few (N := 13) h2 (fun x hx => by
      obtain ⟨y, hy, rfl⟩ := List.mem_map.1 hx
      have := h1 y hy
      exact ⟨this.1, by omega⟩)
    simp at this
    omega
theorem commit_nil {S : DS} {seq : Int} : commitS S seq [] = (0, seq, S) := by
  have hb := pagesOf_bounds (S.n : Int)
  rw [commitS_not (.inr rfl)]
  have : rightE S [] = 0 := by
    unfold rightE
    rw [if_neg (by show ¬ ((0 : Nat) : Int) > pagesOf _; omega), if_pos ⟨(fun x hx => by cases hx), List.nodup_nil⟩]
  rw [this]
/-- How many sectors a commit of so many images writes. -/
def wantW (n : Nat) : Nat := if n = 0 then 0 else 2 * n + 1
/-- A commit, of no image too. -/
theorem free_commit_all {S : DS} {f : Nat → List Int} {n seq : Int} {l : List (Int × List Int)} (hn : n = S.n) (hn3 : 3 ≤ n) (hI : Imgs n seq l) (h : Free S) (hR : Rests S f) :
    (commitS S seq l).1 = 0 ∧ (commitS S seq l).2.2.n = S.n ∧ Free (commitS S seq l).2.2 ∧ (commitS S seq l).2.2.writes = S.writes + wantW l.length := by
  by_cases hne : l = []
  · subst hne
    rw [commit_nil]
    exact ⟨rfl, rfl, h, rfl⟩
  · obtain ⟨h1, h2, h3, h4, h5, h6⟩ := free_commit hn hn3 hI hne h hR
    refine ⟨h1, h4, h3, ?_⟩
    rw [h5]
    unfold wantW
    rw [if_neg (fun e => hne (List.eq_nil_of_length_eq_zero e))]

section
variable {D : World → (Nat → Prop) → Addr → DS → Prop}

set_option maxHeartbeats 4000000 in
theorem redoWrites_walk (api : DiskApi D) {w : World} {A : Option Addr} {n cap : Nat} {l : List Int} (hr : RB w w.heap.size A n l) (hc : n ≤ cap) (hm : n ≤ 9223372036854775807) (ht : Tab w ∧ 1 < w.heap.size) :
    Calls Tryd.prog 5 #[.slice A n cap] w fun e w' => e = .returned (.bool true) ∧ Below w.heap.size w w' := by
  by_cases hbig : 40 < n
  · have k0 : decide ((n : Int) > 40) = true := by simp; omega
    go_enter Tryd.func5, Tryd.ntmps5
    go_wp2_with fail
    refine (redoAwake_any api w ht).mono ?_
    rintro e w1 ⟨rfl, hb⟩
    go_wp2
    go_ret
    exact ⟨rfl, hb⟩
  have k0 : decide ((n : Int) > 40) = false := by simp; omega
  obtain ⟨r1, r2, r3, r4, r5, r6, r7⟩ := fresh_log (m := 27) (by decide)
  have hfw := law_fresh_open (m := 27) (by decide)
  have HN := Lib.hid (law_new api (w0 := w) (w := w) (n := 27) (by decide) (by decide) ht (Below.refl _ _))
  rw [show Int.toNat 27 = 27 from rfl] at HN
  have HR := Lib.hid hr
  clear hr
  go_enter Tryd.func5, Tryd.ntmps5
  go_wp2_with fail
  refine HN.out.mono ?_
  rintro e w1 ⟨p, F1, rfl, L1, _⟩
  have HFM := Lib.hid (law_format api L1 (by decide))
  rw [r1] at HFM
  go_wp2_with fail
  refine HFM.out.mono ?_
  rintro e w2 ⟨rfl, F2, L2, _⟩
  have HO := Lib.hid (law_open_ok api L2 hfw r2)
  rw [r3] at HO
  generalize (openS (markS (DS.new 27) 0 1).2).2.2 = S2 at *
  clear r1 r2 r3 hfw HN HFM L1 L2
  go_wp2_with fail
  refine HO.out.mono ?_
  rintro e w3 ⟨q, F3, rfl, hq3, L3, _⟩
  have HW := Lib.hid (law_writes api L3.toLawD)
  rw [r6] at HW
  have HSM := Lib.hid (some_any (cap := cap) (HR.out.below L3.bel) L3.bel.size (by omega) 5 (by decide))
  have hlt3 := L3.lt api
  have hql := L3.log.cells.2.2.2
  have HL3 := Lib.hid L3
  clear HO L3
  go_wp2_with (go_at_call 16; refine HW.out.mono ?_; rintro e w8 ⟨rfl, hw8⟩; have hw8 := hw8.symm; subst hw8)
  refine HSM.out.mono ?_
  rintro e w4 ⟨A4, c4, rfl, hri, hb4⟩
  have L4 := HL3.out.later api hb4
  have hI := some_imgs (c := 5) (seq := 1) HR.out.bytes n (by decide)
  have hfacts := some_facts l 5 HR.out.bytes n
  obtain ⟨e1, e2, e3, e4⟩ := free_commit_all (n := 27) (by rw [r5]; rfl) (by decide) hI r4 r7
  generalize hLL : someAt l 5 n = LL at *
  have hll : LL.length ≤ 60 := by omega
  have HC := Lib.hid (law_commit (c := c4) (l := LL) api L4 (hri.weaken (fun k hk => by
    rcases hk with a | a
    · exact hlt3 k a
    · show k < _; omega)) (fun y hy => hI.bytes y hy) (fun y hy => by have := hfacts.1 y hy; omega) (by omega) (by decide) (by omega))
  rw [e1] at HC
  rw [r6] at e4
  generalize (commitS S2 1 LL) = CS at *
  clear hri L4 hI hfacts hLL e1 r4 r7 hb4 HL3 HSM HW
  go_wp2_with fail
  refine HC.out.mono ?_
  rintro e w5 ⟨rfl, F5, L5, _⟩
  have HW5 := Lib.hid (law_writes api L5.toLawD)
  have HP5 := Lib.hid (law_pages api L5)
  rw [e2, r5, show pagesOf ((27 : Nat) : Int) = 13 from by decide] at HP5
  have HRP := Lib.hid (refPages_any 27 w5 (by decide))
  rw [show pagesOf 27 = 13 from by decide] at HRP
  have HAW := Lib.hid (redoAwake_any api w5 ⟨ht.1.below L5.bel ht.2, Nat.lt_of_lt_of_le ht.2 L5.bel.size⟩)
  have HB := Lib.hid L5.bel
  have hb5 := L5.bel
  clear L5 HC
  by_cases h0 : LL.length = 0
  · have kl : ((LL.length : Int) == 0) = true := by rw [h0]; rfl
    have hw5 : ((CS.2.2.writes : Nat) : Int) = 1 := by rw [e4, h0]; rfl
    rw [hw5] at HW5
    clear h0 hw5 e4 hll
    go_wp2_with (first
      | (go_at_call 16; refine HW5.out.mono ?_; rintro e w8 ⟨rfl, hw8⟩; have hw8 := hw8.symm; subst hw8)
      | (go_at_call 33; refine HP5.out.mono ?_; rintro e w8 ⟨rfl, hw8⟩; have hw8 := hw8.symm; subst hw8)
      | (go_at_call 34; refine HRP.out.mono ?_; rintro e w8 ⟨rfl, rfl⟩)
      | (go_at_call 12; refine HAW.out.mono ?_; rintro e w9 ⟨rfl, hb9⟩))
    go_ret
    exact ⟨rfl, HB.out.trans (hb9.mono HB.out.size)⟩
  · have kl : ((LL.length : Int) == 0) = false := by rw [beq_eq_false_iff_ne]; omega
    have kw : (2 * (LL.length : Int) + 2 - 1 == 2 * (LL.length : Int) + 1) = true := by rw [beq_iff_eq]; omega
    have hw5 : ((CS.2.2.writes : Nat) : Int) = 2 * (LL.length : Int) + 2 := by rw [e4]; unfold wantW; rw [if_neg h0]; omega
    rw [hw5] at HW5
    clear h0 hw5 e4
    go_wp2_with (first
      | (go_at_call 16; refine HW5.out.mono ?_; rintro e w8 ⟨rfl, hw8⟩; have hw8 := hw8.symm; subst hw8)
      | (go_at_call 33; refine HP5.out.mono ?_; rintro e w8 ⟨rfl, hw8⟩; have hw8 := hw8.symm; subst hw8)
      | (go_at_call 34; refine HRP.out.mono ?_; rintro e w8 ⟨rfl, rfl⟩)
      | (go_at_call 12; refine HAW.out.mono ?_; rintro e w9 ⟨rfl, hb9⟩))
    go_ret
    exact ⟨rfl, HB.out.trans (hb9.mono HB.out.size)⟩
end

end Go.Proofs.YtkmlmbakgmafjaaDoor
