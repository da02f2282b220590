/-
  The texts PgA, PgB, PgC, ExtA, ExtB joined. Conditions: those that each part says at its head.
-/
import Derived.Test.YtinhdimalhfgkaaGreatDoorG16
import Derived.Test.YtinhdimalhfgkaaGreatDoorG17
import Derived.Test.YtinhdimalhfgkaaGreatDoorG14
import Derived.Deep.RegionHeld3

/-
  The pages that a map has, in order: the library's slices.Sorted over its maps.Keys, by contract over a map of whole numbers. Condition: at most 32,767 entries.
-/
namespace Go.Proofs.YtinhdimalhfgkaaGreatDoor
open Go.RowKit Go.Maps Go.Sort Go.Shelf
set_option maxRecDepth 100000
set_option linter.unusedVariables false

theorem sorts_laid (m : Nat) : AnyZI.SortsIn Tryz.prog Tryz.sortedA_ren Fence.wide m :=
  ⟨fun blk off cap ss W hH hblk hsz => callsIn_wide.2 (AnyM.slices_Sort_int Tryz.sortA blk off cap ss W hH hblk hsz),
   fun p cap W => callsIn_wide.2 (AnyM.slices_Sort_int_none Tryz.sortA p cap W)⟩

/-- The keys of a map of whole numbers. -/
theorem IMap.keys {w : World} {b n : Nat} {f : Int → Option Value} {D : DataW Value} (hD : w.ownsMap Tryz.prog 3 asItself b n D) (hf : ∀ i : Int, Maps.has D (.int .i64 i) = (f i).isSome ∧ ∀ v z, f i = some v → D.atKey (.int .i64 i) z = .held v) :
    (intKeys D).Nodup ∧ ∀ i, i ∈ intKeys D ↔ f i ≠ none := by
  obtain ⟨es, rfl, hne, hkey⟩ := hD.entries int_key
  have hint : ∀ p ∈ es, ∃ i : Int, p.1 = .int .i64 i := by
    obtain ⟨es', c, hb, Ft, hs, he⟩ := hD
    intro p hp
    injection he with he
    rw [he] at hp
    obtain ⟨x, hx, rfl⟩ := List.mem_map.1 (mem_sorted.1 hp)
    obtain ⟨y, hy⟩ := Ft.reads x hx
    rw [WideElems.rg_of hy]
    obtain ⟨z, hz, hz2, _⟩ := Maps.keyOf_i64 Tryz.underlying3 (WideElems.rd_key hy)
    exact ⟨z, hz2⟩
  refine ⟨?_, fun i => ?_⟩
  · show (es.map fun p => Go.intOf p.1).Nodup
    rw [List.nodup_iff_pairwise_ne, List.pairwise_map]
    refine hne.imp_of_mem fun {p q} hp hq hpq e => hpq ?_
    obtain ⟨i, hi⟩ := hint p hp
    obtain ⟨j, hj⟩ := hint q hq
    rw [hi, hj] at e ⊢
    have : i = j := e
    rw [this]
  · have h1 := (hf i).1
    rw [Maps.has_eq] at h1
    show i ∈ es.map (fun p => Go.intOf p.1) ↔ _
    rw [List.mem_map]
    constructor
    · rintro ⟨p, hp, rfl⟩ e0
      obtain ⟨j, hj⟩ := hint p hp
      rw [hj] at e0 h1
      have e1 : f j = none := e0
      have h2 : es.any (fun p => p.1.sameKey (.int .i64 j)) = true := List.any_eq_true.2 ⟨p, hp, by rw [hj]; simp [Lit.sameKey]⟩
      have h3 : es.any (fun p => p.1.sameKey (.int .i64 j)) = (f j).isSome := h1
      rw [h2, e1] at h3
      cases h3
    · intro hne0
      have h2 : es.any (fun p => p.1.sameKey (.int .i64 i)) = true := by
        rw [h1]
        cases hfi : f i with
        | none => exact absurd hfi hne0
        | some v => rfl
      obtain ⟨p, hp, hk⟩ := List.any_eq_true.1 h2
      obtain ⟨j, hj⟩ := hint p hp
      refine ⟨p, hp, ?_⟩
      rw [hj] at hk ⊢
      simpa [Lit.sameKey, Go.intOf] using hk

theorem rising_of {l : List Int} (hn : l.Nodup) : (l.mergeSort leI).Pairwise (fun a b => a < b) := by
  have tr : ∀ a b c : Int, leI a b = true → leI b c = true → leI a c = true := fun a b c h1 h2 => by simp only [leI, decide_eq_true_eq] at *; exact Int.le_trans h1 h2
  have to : ∀ a b : Int, (leI a b || leI b a) = true := fun a b => by simp only [leI, Bool.or_eq_true, decide_eq_true_eq]; exact Int.le_total a b
  have h1 := List.pairwise_mergeSort tr to l
  have h2 : (l.mergeSort leI).Nodup := (List.mergeSort_perm l leI).nodup_iff.2 hn
  refine (List.pairwise_and_iff.2 ⟨h1, List.nodup_iff_pairwise_ne.1 h2⟩).imp fun {a b} h => ?_
  have := h.1
  simp only [leI, decide_eq_true_eq] at this
  have := h.2
  omega
theorem rising_same {l m : List Int} (h1 : l.Pairwise (fun a b => a < b)) (h2 : m.Pairwise (fun a b => a < b)) (h : ∀ i, i ∈ l ↔ i ∈ m) : l = m := by
  have n1 : l.Nodup := List.nodup_iff_pairwise_ne.2 (h1.imp fun {a b} h => by omega)
  have n2 : m.Nodup := List.nodup_iff_pairwise_ne.2 (h2.imp fun {a b} h => by omega)
  refine List.Perm.eq_of_pairwise (le := fun a b => a < b) (fun a b _ _ h1 h2 => by omega) h1 h2 ((List.perm_ext_iff_of_nodup n1 n2).2 h)

theorem mapKeys_any (mb : Option Nat) (W : World) : Calls Tryz.prog 151 #[.map mb] W fun e w' => e = .returned (.func (.func 205) #[] #[.pointer (some ⟨W.heap.size, 0, none⟩)]) ∧ w' = W.alloc (.cells #[.map mb] 123) :=
  (callsIn_wide (n := 5)).1 (AnyZI.keys_in Tryz.keysA Fence.wide 5 trivial rfl mb W)

set_option maxHeartbeats 1000000 in
theorem sortedKeys_any {w : World} {b n : Nat} {f : Int → Option Value} (h : IMap w b n f) (hn : n ≤ 32767) :
    Calls Tryz.prog 150 #[.func (.func 205) #[] #[.pointer (some ⟨w.heap.size, 0, none⟩)]] (w.alloc (.cells #[.map (some b)] 123)) fun e w' =>
      ∃ (A : Option Addr) (c : Nat) (l : List Int), e = .returned (.slice A l.length c) ∧ l.length ≤ c ∧ l.Pairwise (fun a b => a < b) ∧ (∀ i, i ∈ l ↔ f i ≠ none) ∧ w'.ownsRow w.heap.size 3 1 (.slice A l.length c) l.length (l.map (Value.int .i64)) ∧ Below w.heap.size w w' := by
  obtain ⟨D, hD, hf⟩ := h
  obtain ⟨hnd, hmem⟩ := IMap.keys hD hf
  have hsz := hD.size_le
  have hbl := hD.lt
  have hseq : SeqGives Fence.wide 2 Tryz.prog 205 #[.pointer (some ⟨w.heap.size, 0, none⟩)] encZ (fun ss => ss.Perm (intKeys D)) (Maps.size D) (w.alloc (.cells #[.map (some b)] 123)) :=
    AnyZI.keys_gives (ρ := Tryz.keysA_ren) { Tryz.keysA with } Fence.wide _ trivial rfl (by omega) w.heap.size b n D _ (by simp) (by simp) (by
      obtain ⟨es, clock, hb, Ft, hs, hD⟩ := hD
      exact ⟨es, clock, (Below.heap_alloc _ _ b hbl).trans hb, Ft, hs, hD⟩)
  have cS := AnyZI.sorted_in Tryz.sortedA Fence.wide 5 trivial trivial trivial trivial rfl (by omega) (sorts_laid _) (enters_of Tryz.func16 (by kernel_rfl) rfl) 205 #[.pointer (some ⟨w.heap.size, 0, none⟩)] trivial (enters_of Tryz.func205 (by kernel_rfl) rfl) _ _ (by unfold maxLen; omega) (by omega) _ hseq
  change CallsIn _ _ Tryz.prog 150 _ _ _ at cS
  refine ((callsIn_wide (n := 5)).1 cS).mono ?_
  rintro e w' ⟨v, ss, rfl, hS, hrow, hnil, hb⟩
  have hrow' := own_base_le hrow (show w.heap.size ≤ (w.alloc (.cells #[.map (some b)] 123)).heap.size by simp)
  have hl : (ss.mergeSort leI).length = ss.length := List.length_mergeSort ss
  rw [← hl] at hrow'
  obtain ⟨A, c, rfl, hc⟩ := int_own_shape hrow'
  have hp : (ss.mergeSort leI).Perm (intKeys D) := (List.mergeSort_perm ss leI).trans hS
  refine ⟨A, c, ss.mergeSort leI, rfl, hc, rising_of (hS.nodup_iff.2 hnd), fun i => (hp.mem_iff).trans (hmem i), hrow', ((Below.refl w.heap.size w).alloc (Nat.le_refl _) _).trans (hb.mono (by simp))⟩

end Go.Proofs.YtinhdimalhfgkaaGreatDoor

/-
  Contracts of the program's pager, but Commit: made, Pages, Changed, Get, Set, Abort, New. Conditions: the table that crc.Step reads holds what the program's text lays in it (Get); numbers are ints.
-/
namespace Go.Proofs.YtinhdimalhfgkaaGreatDoor
open Go.RowKit
set_option maxRecDepth 100000
set_option linter.unusedVariables false

section
variable {D : World → (Nat → Prop) → Addr → DS → Prop} {w w' : World} {F O : Nat → Prop} {p : Addr} {S : DS} {q r b : Nat} {seq : Int} {L : List (Int × List Int)}

set_option maxHeartbeats 400000 in
theorem pmade_any (h : PgAt D w F O p S q seq r b L) : Calls Tryz.prog 91 #[.pointer (some ⟨r, 0, none⟩)] w fun e w' => e = .returned (.bool true) ∧ w = w' := by
  obtain ⟨l0, l1, l2⟩ := h.cells
  clear h
  go_enter Tryz.func91, Tryz.ntmps91
  go_wp2
  go_ret
  exact ⟨rfl, rfl⟩

set_option maxHeartbeats 400000 in
theorem ppages_any (api : DiskApi D) (h : PgAt D w F O p S q seq r b L) : Calls Tryz.prog 45 #[.pointer (some ⟨r, 0, none⟩)] w fun e w' => e = .returned (.int .i64 (pagesOf S.n)) ∧ w' = w := by
  obtain ⟨l0, l1, l2⟩ := h.cells
  have HM := Lib.hid (pmade_any h)
  have HP := Lib.hid (pages_same api h.d h.log)
  clear h
  go_enter Tryz.func45, Tryz.ntmps45
  go_wp2_with fail
  refine HM.out.mono ?_
  rintro e w1 ⟨rfl, rfl⟩
  go_wp2_with fail
  refine HP.out.mono ?_
  rintro e w1 ⟨rfl, hw⟩
  have hw := hw.symm
  subst hw
  go_wp2
  go_ret
  exact ⟨rfl, rfl⟩

theorem PgSet.sup {X : Nat → Prop} (h : PgSet w X O b L) : ∃ f, IMap w b L.length f ∧ ∀ i, f i ≠ none ↔ atL L i ≠ none := by
  obtain ⟨f, h1, h2⟩ := h
  refine ⟨f, h1, fun i => ⟨fun hf e => hf ((h2 i).1 e), fun ha e => ?_⟩⟩
  cases hl : atL L i with
  | none => exact ha hl
  | some l =>
    obtain ⟨g, c, e1, _⟩ := (h2 i).2 l hl
    rw [e1] at e
    cases e
theorem atL_ne {i : Int} (h : Rising L) : atL L i ≠ none ↔ i ∈ L.map (·.1) := by
  constructor
  · intro hne
    cases hl : atL L i with
    | none => exact absurd hl hne
    | some l => exact List.mem_map.2 ⟨_, atL_mem hl, rfl⟩
  · intro hm e
    obtain ⟨x, hx, rfl⟩ := List.mem_map.1 hm
    rw [h.at_ (i := x.1) (l := x.2) hx] at e
    cases e

set_option maxHeartbeats 800000 in
theorem pchanged_any (api : DiskApi D) (h : PgAt D w F O p S q seq r b L) : Calls Tryz.prog 92 #[.pointer (some ⟨r, 0, none⟩)] w fun e w' => ∃ (A : Option Addr) (c : Nat), e = .returned (.slice A L.length c) ∧ L.length ≤ c ∧ RI w' w'.heap.size A L.length (L.map (·.1)) ∧ Below w.heap.size w w' := by
  obtain ⟨l0, l1, l2⟩ := h.cells
  have HM := Lib.hid (pmade_any h)
  obtain ⟨f, hf, hsup⟩ := h.set.sup
  have hb := pagesOf_bounds (S.n : Int)
  have hfew := few_set h.up h.all
  have hup := h.up
  have hall := h.all
  have HK := Lib.hid (mapKeys_any (some b) w)
  have HS := Lib.hid (sortedKeys_any hf (by unfold DS.P at hfew; omega))
  have HSUP := Lib.hid (fun i => (hsup i).trans (atL_ne hup))
  have HUP := Lib.hid (And.intro hup (And.intro hall hb))
  clear h hf hsup hfew hup hall hb
  go_enter Tryz.func92, Tryz.ntmps92
  go_wp2_with fail
  refine HM.out.mono ?_
  rintro e w1 ⟨rfl, rfl⟩
  go_wp2_with fail
  refine HK.out.mono ?_
  rintro e w1 ⟨rfl, rfl⟩
  go_wp2_with fail
  refine HS.out.mono ?_
  rintro e w1 ⟨A, c, l, rfl, hc, hl, hmem, hown, hb⟩
  have hl2 : l = L.map (·.1) := rising_same hl (List.pairwise_map.2 HUP.out.1) (fun i => (hmem i).trans (HSUP.out i))
  have HB := Lib.hid hb
  subst hl2
  rw [List.length_map] at hown hc ⊢
  have hri := Lib.hid (RI.of_own hown (fun x hx => by
    obtain ⟨y, hy, rfl⟩ := List.mem_map.1 hx
    obtain ⟨a1, a2, _⟩ := HUP.out.2.1 y hy
    have := HUP.out.2.2
    unfold DS.P at a2
    omega)).1
  clear hl hmem hown hb
  go_wp2
  go_ret
  exact ⟨_, _, rfl, hc, hri.out, HB.out⟩

set_option maxHeartbeats 800000 in
theorem pget_any (api : DiskApi D) (h : PgAt D w F O p S q seq r b L) (ht : TabF w F) (i : Int) (hi : -9223372036854775808 ≤ i ∧ i ≤ 9223372036854775807) : Calls Tryz.prog 52 #[.pointer (some ⟨r, 0, none⟩), .int .i64 i] w fun e w' => ∃ A n c, e = .returned (.tuple #[.slice A n c, .int .i64 (getPg S L i).2]) ∧ n ≤ c ∧ RB w' w'.heap.size A n (getPg S L i).1 ∧ Below w.heap.size w w' := by
  obtain ⟨l0, l1, l2⟩ := h.cells
  have HM := Lib.hid (pmade_any h)
  obtain ⟨f, hf, hset⟩ := h.set
  have HLD := Lib.hid (load_any api h.d h.log ht i hi)
  have q1 := hf.look Tryz.underlying123 (zero_slice w) hi
  cases ha : atL L i with
  | none =>
    have hg : getPg S L i = loadS S i := by unfold getPg; rw [ha]
    rw [(hset i).1 ha] at q1
    simp only [Option.getD_none, Option.isSome_none] at q1
    rw [hg]
    clear hg ha hset hf h ht
    go_enter Tryz.func52, Tryz.ntmps52
    go_wp2_with fail
    refine HM.out.mono ?_
    rintro e w1 ⟨rfl, rfl⟩
    go_wp2_with fail
    refine HLD.out.mono ?_
    rintro e w1 ⟨A, n, c, rfl, hc, hr, hb⟩
    have HE := Lib.hid (And.intro hr hb)
    clear hr hb
    go_wp2
    go_ret2
    exact ⟨_, _, _, rfl, hc, HE.out.1, HE.out.2⟩
  | some l =>
    have hg : getPg S L i = (l, 0) := by unfold getPg; rw [ha]
    obtain ⟨g, c, e1, hc, hr, _⟩ := (hset i).2 l ha
    rw [e1] at q1
    simp only [Option.getD_some, Option.isSome_some] at q1
    have HCL := Lib.hid (SClone_any c hr (Nat.le_refl _) (by decide))
    rw [hg]
    clear hg ha hset hf h ht hr e1
    go_enter Tryz.func52, Tryz.ntmps52
    go_wp2_with fail
    refine HM.out.mono ?_
    rintro e w1 ⟨rfl, rfl⟩
    go_wp2_with fail
    refine HCL.out.mono ?_
    rintro e w1 ⟨A, c1, rfl, hc1, hr, hb⟩
    have HE := Lib.hid (And.intro hr hb)
    clear hr hb
    go_wp2
    go_ret2
    exact ⟨_, _, _, rfl, hc1, HE.out.1, HE.out.2⟩

/-- The map was emptied. -/
theorem PgAt.empty (api : DiskApi D) (h : PgAt D w F O p S q seq r b L) (hm : IMap w' b 0 (fun _ => none)) (hg : w.grownBy w' (some b)) : PgAt D w' F O p S q seq r b [] :=
  h.turn api hg (fun k hk => hk) (fun k hk => Nat.lt_of_lt_of_le (h.lt k hk) hg.size) ⟨_, hm, fun i => ⟨fun _ => rfl, fun l hl => by cases hl⟩⟩ List.Pairwise.nil (fun x hx => by cases hx)
theorem touch_grown {X : Nat → Prop} (hg : w.grownBy w' (some b)) (hb : X b) : Touch X w w' := ⟨hg.os, hg.tape, hg.output, hg.size, fun k hk hn => hg.block k hk (fun e => hn (by injection e with e; rw [e]; exact hb))⟩

set_option maxHeartbeats 400000 in
theorem pabort_any (api : DiskApi D) (h : PgAt D w F O p S q seq r b L) : Calls Tryz.prog 39 #[.pointer (some ⟨r, 0, none⟩)] w fun e w' => e = .returned (.tuple #[]) ∧ PgAt D w' F O p S q seq r b [] ∧ w.grownBy w' (some b) := by
  obtain ⟨l0, l1, l2⟩ := h.cells
  have HM := Lib.hid (pmade_any h)
  obtain ⟨f, hf, hset⟩ := h.set
  obtain ⟨w5, hrun5, hm5, hg5⟩ := hf.clear_ Tryz.underlying123 0
  have HE := Lib.hid (And.intro (h.empty api hm5 hg5) hg5)
  clear h hf hset hm5 hg5
  go_enter Tryz.func39, Tryz.ntmps39
  go_wp2_with fail
  refine HM.out.mono ?_
  rintro e w1 ⟨rfl, rfl⟩
  go_wp2
  go_end0
  exact ⟨rfl, HE.out⟩
end

end Go.Proofs.YtinhdimalhfgkaaGreatDoor

/-
  Contracts of the program's pager's Set and New. Conditions: numbers and lengths are ints.
-/
namespace Go.Proofs.YtinhdimalhfgkaaGreatDoor
open Go.RowKit
set_option maxRecDepth 100000
set_option linter.unusedVariables false

section
variable {D : World → (Nat → Prop) → Addr → DS → Prop} {w w' : World} {F O : Nat → Prop} {p : Addr} {S : DS} {q r b : Nat} {seq : Int} {L : List (Int × List Int)}

/-- Stored: the map holds the slice of a new block at i. -/
theorem PgAt.stored (api : DiskApi D) (h : PgAt D w F O p S q seq r b L) {i : Int} {l : List Int} (hi : 0 ≤ i ∧ i < S.P) (hl : l.length = 240) (hb : AllBytes l) {w1 : World} {g c : Nat} (hb1 : Below w.heap.size w w1) (hg : w.heap.size ≤ g) (hc : 240 ≤ c) (hr : RB w1 w1.heap.size (some ⟨g, 0, none⟩) 240 l) :
    ∃ w2, (Instr.mapUpdate 123 (.map (some b)) (.int .i64 i) (.slice (some ⟨g, 0, none⟩) 240 c)).run Tryz.prog w1 = .ok () w2 ∧ Hid (PgAt D w2 F (fun k => O k ∨ k = g) p S q seq r b (setL L i l) ∧ Touch O w w2) := by
  have hfew := few_set h.up h.all
  have hpb := pagesOf_bounds (S.n : Int)
  have h1 := h.below api hb1
  obtain ⟨f, hf, hset⟩ := h1.set
  have hgl : g < w1.heap.size := by obtain ⟨bb, _, e, hbb, _⟩ := hr.at_ (by decide); cases e; exact hbb
  obtain ⟨w2, hrun, hm2, hg2⟩ := hf.store Tryz.underlying123 (i := i) (by unfold maxLen; unfold DS.P at hfew; omega) (by unfold DS.P at hi; omega) (.slice (some ⟨g, 0, none⟩) 240 c)
  have hsup : ∀ j, (fun j => if j = i then some (Value.slice (some ⟨g, 0, none⟩) 240 c) else f j) j ≠ none → j ∈ (setL L i l).map (·.1) := by
    intro j hj
    have hup : Rising (setL L i l) := h.up.set
    rw [← atL_ne hup, atL_setL]
    by_cases e : j = i
    · rw [if_pos e]; simp
    · rw [if_neg e]
      intro ha
      simp only [if_neg e] at hj
      exact hj ((hset j).1 ha)
  have hm3 := hm2.tight ((setL L i l).map (·.1)) hsup
  rw [List.length_map] at hm3
  have hno : ∀ k, (F k ∨ k = q ∨ k = r ∨ k = b) → k ≠ g := fun k hk e => by
    have := h.lt k (h.own k hk)
    omega
  have hgb : g ≠ b := fun e => hno b (.inr (.inr (.inr rfl))) e.symm
  refine ⟨w2, hrun, Lib.hid ⟨h1.turn api hg2 (fun k hk => .inl hk) (fun k hk => ?_) ⟨_, hm3, fun j => ?_⟩ h.up.set (h.all.set hi hl hb), ?_⟩⟩
  · rcases hk with a | a
    · exact Nat.lt_of_lt_of_le (h1.lt k a) hg2.size
    · rw [a]; exact Nat.lt_of_lt_of_le hgl hg2.size
  · rw [atL_setL]
    by_cases e : j = i
    · rw [if_pos e]
      refine ⟨fun ha => (by cases ha), fun l' hl' => ?_⟩
      cases hl'
      refine ⟨g, c, by simp [e], hc, hr.there (by decide) (hg2.block g hgl (fun e => hgb (Option.some.inj e))) hg2.size, fun hx => hno g hx rfl, .inr rfl⟩
    · rw [if_neg e]
      refine ⟨fun ha => by simp only [if_neg e]; exact (hset j).1 ha, fun l' hl' => ?_⟩
      obtain ⟨g', c', e1, e2, e3, e4, e5⟩ := (hset j).2 l' hl'
      have hg' : g' < w1.heap.size := by obtain ⟨bb, _, e, hbb, _⟩ := e3.at_ (by decide); cases e; exact hbb
      exact ⟨g', c', by simp only [if_neg e]; exact e1, e2, e3.there (by decide) (hg2.block g' hg' (fun e => e4 (.inr (.inr (.inr (Option.some.inj e)))))) hg2.size, e4, .inl e5⟩
  · have hOb := h.own b (.inr (.inr (.inr rfl)))
    exact ⟨hg2.os.trans hb1.os, hg2.tape.trans hb1.tape, hg2.output.trans hb1.output, Nat.le_trans hb1.size hg2.size, fun k hk hn => (hg2.block k (Nat.lt_of_lt_of_le hk hb1.size) (fun e => hn (by injection e with e; rw [e]; exact hOb))).trans (hb1.block k hk)⟩

set_option maxHeartbeats 3200000 in
theorem pset_any (api : DiskApi D) (h : PgAt D w F O p S q seq r b L) (i : Int) {A : Option Addr} {n c B : Nat} {l : List Int} (hi : -9223372036854775808 ≤ i ∧ i ≤ 9223372036854775807) (hr : RB w B A n l) (hB : B ≤ w.heap.size) (hn : n ≤ maxLen) :
    Calls Tryz.prog 186 #[.pointer (some ⟨r, 0, none⟩), .int .i64 i, .slice A n c] w fun e w' => e = .returned (.int .i64 (setPgE S i l)) ∧ ∃ O', PgAt D w' F O' p S q seq r b (setPg S L i l) ∧ Touch O w w' ∧ ∀ k, O' k → O k ∨ w.heap.size ≤ k := by
  unfold maxLen at hn
  obtain ⟨l0, l1, l2⟩ := h.cells
  have hlen := hr.len
  have HM := Lib.hid (pmade_any h)
  have HP := Lib.hid (ppages_any api h)
  have hPd : S.P = pagesOf S.n := rfl
  have HH := Lib.hid h
  have HSAME := Lib.hid (show PgAt D w F O p S q seq r b L ∧ Touch O w w ∧ ∀ k, O k → O k ∨ w.heap.size ≤ k from ⟨h, Touch.refl _ _, fun k hk => .inl hk⟩)
  by_cases h1 : i < 0
  · have hE : setPgE S i l = 1 ∧ setPg S L i l = L := by unfold setPgE setPg; exact ⟨if_pos (.inl h1), if_pos (.inl h1)⟩
    have k1 : decide (i < 0) = true := by simpa using h1
    rw [hE.1, hE.2]
    clear hE h1 h hr hlen
    go_enter Tryz.func186, Tryz.ntmps186
    go_wp2_with fail
    refine HM.out.mono ?_
    rintro e w1 ⟨rfl, rfl⟩
    go_wp2
    go_ret
    exact ⟨rfl, O, HSAME.out⟩
  have k1 : decide (i < 0) = false := by simpa using h1
  by_cases h2 : i ≥ S.P
  · have hE : setPgE S i l = 1 ∧ setPg S L i l = L := by unfold setPgE setPg; exact ⟨if_pos (.inr (.inl h2)), if_pos (.inr (.inl h2))⟩
    have k2 : decide (i ≥ pagesOf S.n) = true := by rw [← hPd]; simpa using h2
    rw [hE.1, hE.2]
    clear hE h1 h2 h hr hlen hPd
    go_enter Tryz.func186, Tryz.ntmps186
    go_wp2_with fail
    refine HM.out.mono ?_
    rintro e w1 ⟨rfl, rfl⟩
    go_wp2_with fail
    refine HP.out.mono ?_
    rintro e w1 ⟨rfl, hw⟩
    have hw := hw.symm
    subst hw
    go_wp2
    go_ret
    exact ⟨rfl, O, HSAME.out⟩
  have k2 : decide (i ≥ pagesOf S.n) = false := by rw [← hPd]; simpa using h2
  by_cases h3 : n = 240
  · subst h3
    have hE : setPgE S i l = 0 ∧ setPg S L i l = setL L i l := by unfold setPgE setPg; exact ⟨if_neg (by rw [hlen]; omega), if_neg (by rw [hlen]; omega)⟩
    rw [hE.1, hE.2]
    have hrd : RB w.drew w.drew.heap.size A 240 l := (hr.more hB).drew
    have HST := Lib.hid (fun (w1 : World) (g c1 : Nat) (hb1 : Below w.heap.size w w1) (hg : w.heap.size ≤ g) (hc : 240 ≤ c1) (hr1 : RB w1 w1.heap.size (some ⟨g, 0, none⟩) 240 l) => h.stored api (i := i) ⟨by omega, by omega⟩ hlen hr.bytes hb1 hg hc hr1)
    have HBY := Lib.hid hr.bytes
    clear hE h1 h2 h hr hlen hPd
    go_enter Tryz.func186, Tryz.ntmps186
    go_wp2_with fail
    refine HM.out.mono ?_
    rintro e w1 ⟨rfl, rfl⟩
    go_wp2_with fail
    refine HP.out.mono ?_
    rintro e w1 ⟨rfl, hw⟩
    have hw := hw.symm
    subst hw
    go_wp2_with fail
    have e1 : w.drew.cell? ⟨r, 1, none⟩ = some (.map (some b)) := l1
    go_region_with
      (go_at_call 99; refine (CloneB_own c hrd (Nat.le_refl _) (by decide)).mono ?_; rintro e w5 ⟨A5, k5, rfl, hk5, hown5, hb5⟩; obtain ⟨g5, k5', e5, hk5', hg5⟩ := own_some hown5 (by decide); cases e5; have hb5' : Below w.heap.size w w5 := (Below.refl _ _).drew.trans hb5; obtain ⟨w6, hrun6, HE⟩ := HST.out w5 g5 k5 hb5' hg5 hk5 (RB.of_own hown5 HBY.out); have l5 : w5.cell? ⟨r, 1, none⟩ = some (.map (some b)) := (hb5'.cell (p := ⟨r, 1, none⟩) l2).trans l1; clear hown5 hb5 hb5')
    all_goals go_wp2
    all_goals go_ret
    all_goals exact ⟨rfl, _, HE.out.1, HE.out.2, fun k hk => hk.imp id (fun e => by rw [e]; exact hg5)⟩
  · have hE : setPgE S i l = 1 ∧ setPg S L i l = L := by unfold setPgE setPg; exact ⟨if_pos (.inr (.inr (by rw [hlen]; exact h3))), if_pos (.inr (.inr (by rw [hlen]; exact h3)))⟩
    have k3 : ((n : Int) != 240) = true := by simp; omega
    rw [hE.1, hE.2]
    clear hE h1 h2 h3 h hr hlen hPd
    go_enter Tryz.func186, Tryz.ntmps186
    go_wp2_with fail
    refine HM.out.mono ?_
    rintro e w1 ⟨rfl, rfl⟩
    go_wp2_with fail
    refine HP.out.mono ?_
    rintro e w1 ⟨rfl, hw⟩
    have hw := hw.symm
    subst hw
    go_wp2
    go_ret
    exact ⟨rfl, O, HSAME.out⟩
end

end Go.Proofs.YtinhdimalhfgkaaGreatDoor

/-
  A store's change in memory, and its smallest step: a page is given its bytes. Conditions: numbers and lengths are ints.
-/
namespace Go.Proofs.YtinhdimalhfgkaaGreatDoor
open Go.RowKit
set_option maxRecDepth 100000
set_option linter.unusedVariables false

section
variable {D : World → (Nat → Prop) → Addr → DS → Prop} {w w' : World} {F O : Nat → Prop} {p : Addr} {S : DS} {q r b : Nat} {seq : Int} {L : List (Int × List Int)}

/-- A store at st, of the pager at r. -/
def StAt (w : World) (st r : Nat) : Prop := w.heap[st]? = some (.cells #[.pointer (some ⟨r, 0, none⟩)] 48 (0, 0))
/-- A change at ch, of the store at st: what it was, what it will be, the slots' map, the steps. -/
def ChAt (w : World) (ch st : Nat) (d f n c : Int) (v : Value) (d' f' n' c' : Int) (v' : Value) (mb : Nat) (sv : Value) : Prop :=
  w.heap[ch]? = some (.cells #[.pointer (some ⟨st, 0, none⟩), .int .i64 d, .int .i64 f, .int .i64 n, .int .i64 c, v, .int .i64 d', .int .i64 f', .int .i64 n', .int .i64 c', v', .map (some mb), sv] 178 (0, 0))

set_option maxHeartbeats 1600000 in
theorem lay1_any (api : DiskApi D) (h : PgAt D w F O p S q seq r b L) {cb pb db ch st : Nat} {i : Int} {A : Option Addr} {n c B : Nat} {l : List Int} (hi : -9223372036854775808 ≤ i ∧ i ≤ 9223372036854775807)
    (h0 : w.cell? ⟨cb, 0, none⟩ = some (.pointer (some ⟨ch, 0, none⟩))) (h1 : w.cell? ⟨ch, 0, none⟩ = some (.pointer (some ⟨st, 0, none⟩))) (h2 : w.cell? ⟨st, 0, none⟩ = some (.pointer (some ⟨r, 0, none⟩))) (h3 : w.cell? ⟨pb, 0, none⟩ = some (.int .i64 i)) (h4 : w.cell? ⟨db, 0, none⟩ = some (.slice A n c)) (ho : ∀ k, k = cb ∨ k = ch ∨ k = st ∨ k = pb ∨ k = db → ¬ O k) (hr : RB w B A n l) (hB : B ≤ w.heap.size) (hn : n ≤ maxLen) :
    Calls Tryz.prog 185 #[.pointer (some ⟨cb, 0, none⟩), .pointer (some ⟨pb, 0, none⟩), .pointer (some ⟨db, 0, none⟩)] w fun e w' => e = .returned (.int .i64 (setPgE S i l)) ∧ ∃ O', PgAt D w' F O' p S q seq r b (setPg S L i l) ∧ Touch O w w' ∧ ∀ k, O' k → O k ∨ w.heap.size ≤ k := by
  have HS := Lib.hid (fun (w1 : World) (hb : Below w.heap.size w w1) => pset_any (c := c) api (h.below api hb) i hi (hr.below (hb.mono hB)) (Nat.le_trans hB hb.size) hn)
  have hd : Below w.heap.size w w.drew := (Below.refl _ _).drew
  have HC := Lib.hid (show ∀ w2, Touch O w w2 → ∀ (k : Nat) (u : Value), (k = cb ∨ k = ch ∨ k = st ∨ k = pb ∨ k = db) → w.cell? ⟨k, 0, none⟩ = some u → w2.cell? ⟨k, 0, none⟩ = some u from fun w2 ht k u hk hu => (World.cell?_of_block (a := ⟨k, 0, none⟩) (ht.block k (World.block_lt_of_cell? _ _ hu) (ho k hk))).trans hu)
  have HT := Lib.hid (show ∀ w2, Touch O w.drew w2 → Touch O w w2 from fun w2 ht => ⟨ht.os, ht.tape, ht.output, ht.size, ht.block⟩)
  have HSD := Lib.hid (HS.out w.drew hd)
  clear h hr HS hd
  go_enter Tryz.func185, Tryz.ntmps185
  go_wp2_with fail
  go_region_held3 (fun w' => w'.cell? ⟨cb, 0, none⟩ = some (.pointer (some ⟨ch, 0, none⟩)) ∧ w'.cell? ⟨ch, 0, none⟩ = some (.pointer (some ⟨st, 0, none⟩)) ∧ w'.cell? ⟨st, 0, none⟩ = some (.pointer (some ⟨r, 0, none⟩)) ∧ w'.cell? ⟨pb, 0, none⟩ = some (.int .i64 i) ∧ w'.cell? ⟨db, 0, none⟩ = some (.slice A n c))
    (first | with_reducible exact y1 | exact ⟨h0, h1, h2, h3, h4⟩)
    (first
      | (go_at_call 186; refine HSD.out.mono ?_; rintro e w2 ⟨rfl, O2, p2, t2, n2⟩; have tt := HT.out w2 t2; have y1 : w2.cell? ⟨cb, 0, none⟩ = some (.pointer (some ⟨ch, 0, none⟩)) ∧ w2.cell? ⟨ch, 0, none⟩ = some (.pointer (some ⟨st, 0, none⟩)) ∧ w2.cell? ⟨st, 0, none⟩ = some (.pointer (some ⟨r, 0, none⟩)) ∧ w2.cell? ⟨pb, 0, none⟩ = some (.int .i64 i) ∧ w2.cell? ⟨db, 0, none⟩ = some (.slice A n c) := ⟨HC.out w2 tt cb _ (.inl rfl) h0, HC.out w2 tt ch _ (.inr (.inl rfl)) h1, HC.out w2 tt st _ (.inr (.inr (.inl rfl))) h2, HC.out w2 tt pb _ (.inr (.inr (.inr (.inl rfl)))) h3, HC.out w2 tt db _ (.inr (.inr (.inr (.inr rfl)))) h4⟩))
  have HE := Lib.hid (show ∃ O', PgAt D w2 F O' p S q seq r b (setPg S L i l) ∧ Touch O w w2 ∧ ∀ k, O' k → O k ∨ w.heap.size ≤ k from ⟨O2, p2, tt, n2⟩)
  clear p2 t2 n2 tt y1
  go_wp2
  go_ret
  exact ⟨rfl, HE.out⟩
end
end Go.Proofs.YtinhdimalhfgkaaGreatDoor

/-
  A store's change takes the first page that was never used. Condition: the number is an int.
-/
namespace Go.Proofs.YtinhdimalhfgkaaGreatDoor
open Go.RowKit
set_option maxRecDepth 100000
set_option linter.unusedVariables false

section
variable {D : World → (Nat → Prop) → Addr → DS → Prop} {w w' : World} {F O : Nat → Prop} {p : Addr} {S : DS} {q r b : Nat} {seq : Int} {L : List (Int × List Int)} {ch st mb : Nat} {d f n c d' f' n' c' : Int} {v v' sv : Value}

theorem StAt.cell (h : StAt w st r) : w.cell? ⟨st, 0, none⟩ = some (.pointer (some ⟨r, 0, none⟩)) := by
  rw [cell_of_row w st 0 _ _ (0, 0) h]; rfl
theorem ChAt.cells (h : ChAt w ch st d f n c v d' f' n' c' v' mb sv) : w.cell? ⟨ch, 0, none⟩ = some (.pointer (some ⟨st, 0, none⟩)) ∧ w.cell? ⟨ch, 6, none⟩ = some (.int .i64 d') ∧ w.cell? ⟨ch, 7, none⟩ = some (.int .i64 f') ∧ w.cell? ⟨ch, 8, none⟩ = some (.int .i64 n') ∧ w.cell? ⟨ch, 9, none⟩ = some (.int .i64 c') ∧ w.cell? ⟨ch, 10, none⟩ = some v' ∧ w.cell? ⟨ch, 11, none⟩ = some (.map (some mb)) ∧ w.cell? ⟨ch, 12, none⟩ = some sv ∧ ch < w.heap.size := by
  refine ⟨?_, ?_, ?_, ?_, ?_, ?_, ?_, ?_, (Array.getElem?_eq_some_iff.1 h).1⟩ <;> (rw [cell_of_row w ch _ _ _ (0, 0) h]; rfl)
theorem ChAt.frozen (h : ChAt w ch st d f n c v d' f' n' c' v' mb sv) (i : Nat) : w.frozen? ⟨ch, i, none⟩ = false := by
  have h' : w.heap[ch]? = _ := h
  simp [World.frozen?, h']
theorem ChAt.setN (h : ChAt w ch st d f n c v d' f' n' c' v' mb sv) (x : Int) : ChAt (w.setCell ⟨ch, 8, none⟩ (.int .i64 x)) ch st d f n c v d' f' x c' v' mb sv := heap_setCell_same w ch 8 _ _ (.int .i64 x) h
theorem ChAt.setF (h : ChAt w ch st d f n c v d' f' n' c' v' mb sv) (x : Int) : ChAt (w.setCell ⟨ch, 7, none⟩ (.int .i64 x)) ch st d f n c v d' x n' c' v' mb sv := heap_setCell_same w ch 7 _ _ (.int .i64 x) h
theorem ChAt.setC (h : ChAt w ch st d f n c v d' f' n' c' v' mb sv) (x : Int) : ChAt (w.setCell ⟨ch, 9, none⟩ (.int .i64 x)) ch st d f n c v d' f' n' x v' mb sv := heap_setCell_same w ch 9 _ _ (.int .i64 x) h
theorem ChAt.setD (h : ChAt w ch st d f n c v d' f' n' c' v' mb sv) (x : Int) : ChAt (w.setCell ⟨ch, 6, none⟩ (.int .i64 x)) ch st d f n c v x f' n' c' v' mb sv := heap_setCell_same w ch 6 _ _ (.int .i64 x) h
theorem ChAt.setV (h : ChAt w ch st d f n c v d' f' n' c' v' mb sv) (u : Value) : ChAt (w.setCell ⟨ch, 10, none⟩ u) ch st d f n c v d' f' n' c' u mb sv := heap_setCell_same w ch 10 _ _ u h
theorem ChAt.setS (h : ChAt w ch st d f n c v d' f' n' c' v' mb sv) (u : Value) : ChAt (w.setCell ⟨ch, 12, none⟩ u) ch st d f n c v d' f' n' c' v' mb u := heap_setCell_same w ch 12 _ _ u h
theorem ChAt.below (h : ChAt w ch st d f n c v d' f' n' c' v' mb sv) (hb : Below w.heap.size w w') : ChAt w' ch st d f n c v d' f' n' c' v' mb sv := (hb.block ch h.cells.2.2.2.2.2.2.2.2).trans h

set_option maxHeartbeats 1600000 in
theorem takeNew_any (api : DiskApi D) (h : PgAt D w F O p S q seq r b L) (hc : ChAt w ch st d f n c v d' f' n' c' v' mb sv) (hs : StAt w st r) (hn : 0 ≤ n' ∧ n' < 4611686018427387904) :
    Calls Tryz.prog 144 #[.pointer (some ⟨ch, 0, none⟩)] w fun e w' => (pagesOf S.n ≤ n' ∧ e = .returned (.tuple #[.int .i64 0, .int .i64 6]) ∧ w' = w) ∨ (n' < pagesOf S.n ∧ e = .returned (.tuple #[.int .i64 n', .int .i64 0]) ∧ w' = w.setCell ⟨ch, 8, none⟩ (.int .i64 (n' + 1))) := by
  obtain ⟨z0, _, _, z3, _, _, _, _, zl⟩ := hc.cells
  have zs := hs.cell
  have fz := hc.frozen 8
  have HP := Lib.hid (ppages_any api h)
  obtain ⟨n0, n1⟩ := hn
  have hpb := pagesOf_bounds (S.n : Int)
  clear h hs hc
  by_cases hf : pagesOf S.n ≤ n'
  · have k1 : decide (pagesOf S.n ≤ n') = true := by simpa using hf
    go_enter Tryz.func144, Tryz.ntmps144
    go_wp2_with fail
    refine HP.out.mono ?_
    rintro e w1 ⟨rfl, hw⟩
    subst hw
    go_wp2
    go_ret2
    exact .inl ⟨hf, rfl, rfl⟩
  · have k1 : decide (pagesOf S.n ≤ n') = false := by simpa using hf
    go_enter Tryz.func144, Tryz.ntmps144
    go_wp2_with fail
    refine HP.out.mono ?_
    rintro e w1 ⟨rfl, hw⟩
    subst hw
    go_wp2
    go_ret2
    exact .inr ⟨by omega, rfl, rfl⟩
end
end Go.Proofs.YtinhdimalhfgkaaGreatDoor
