/-
  The keys that were changed, in order: the library's slices.Sorted over its maps.Keys, by contract over a map by texts. Condition: at most 32,767 entries.
-/
import Derived.Test.YtlpjggilkfpleaaGreatViewC
import Derived.Test.YtlpjggilkfpleaaGreatSortS
namespace Go.Proofs.YtlpjggilkfpleaaGreat
open Go.RowKit Go.Maps Go.Sort Go.Shelf
set_option maxRecDepth 100000
set_option linter.unusedVariables false

theorem sortsS_laid (m : Nat) : AnyZ.SortsIn Tryz.prog Tryz.sortedS_ren Fence.wide m :=
  ⟨fun blk off cap ss W hH hblk hsz => callsIn_wide.2 (AnyM.slices_Sort_string Tryz.sortS blk off cap ss W hH hblk hsz),
   fun p cap W => callsIn_wide.2 (AnyM.slices_Sort_string_none Tryz.sortS p cap W)⟩

/-- The keys of a map by texts. -/
theorem SMap.keys {w : World} {b n : Nat} {f : Txt → Option Value} {D : DataW Value} (hD : w.ownsMap Tryz.prog 9 asIt b n D) (hf : SFun D f) :
    (strKeys D).Nodup ∧ ∀ i, i ∈ strKeys D ↔ f i ≠ none := by
  obtain ⟨es, rfl, hne, hkey⟩ := hD.entries str_key
  have hint : ∀ p ∈ es, ∃ i : Txt, p.1 = .string i := by
    obtain ⟨es', c, hb, Ft, hs, he⟩ := hD
    intro p hp
    injection he with he
    rw [he] at hp
    obtain ⟨x, hx, rfl⟩ := List.mem_map.1 (mem_sorted.1 hp)
    obtain ⟨y, hy⟩ := Ft.reads x hx
    rw [WideElems.rg_of hy]
    obtain ⟨i, _, e, _⟩ := Maps.keyOf_str Tryz.underlying9 (WideElems.rd_key hy)
    exact ⟨i, e⟩
  refine ⟨?_, fun i => ?_⟩
  · show (es.map fun p => strOf p.1).Nodup
    rw [List.nodup_iff_pairwise_ne, List.pairwise_map]
    refine hne.imp_of_mem fun {p q} hp hq hpq e => hpq ?_
    obtain ⟨i, hi⟩ := hint p hp
    obtain ⟨j, hj⟩ := hint q hq
    rw [hi, hj] at e ⊢
    have : i = j := e
    rw [this]
  · have h1 := (hf i).1
    rw [Maps.has_eq] at h1
    show i ∈ es.map (fun p => strOf p.1) ↔ _
    rw [List.mem_map]
    constructor
    · rintro ⟨p, hp, rfl⟩ e0
      obtain ⟨j, hj⟩ := hint p hp
      rw [hj] at e0 h1
      have e1 : f j = none := e0
      have h2 : es.any (fun p => p.1.sameKey (.string j)) = true := List.any_eq_true.2 ⟨p, hp, by rw [hj]; simp [Lit.sameKey]⟩
      have h3 : es.any (fun p => p.1.sameKey (.string j)) = (f j).isSome := h1
      rw [h2, e1] at h3
      cases h3
    · intro hne0
      have h2 : es.any (fun p => p.1.sameKey (.string i)) = true := by
        rw [h1]
        cases hfi : f i with
        | none => exact absurd hfi hne0
        | some v => rfl
      obtain ⟨p, hp, hk⟩ := List.any_eq_true.1 h2
      obtain ⟨j, hj⟩ := hint p hp
      refine ⟨p, hp, ?_⟩
      rw [hj] at hk ⊢
      simpa [Lit.sameKey, strOf] using hk

theorem srising_of {l : List Txt} (hn : l.Nodup) : (l.mergeSort leB).Pairwise (fun a b => a < b) := by
  have tr : ∀ a b c : Txt, leB a b = true → leB b c = true → leB a c = true := fun a b c h1 h2 => by simp only [leB, decide_eq_true_eq] at *; exact List.le_trans h1 h2
  have to : ∀ a b : Txt, (leB a b || leB b a) = true := fun a b => by simp only [leB, Bool.or_eq_true, decide_eq_true_eq]; exact List.le_total a b
  have h1 := List.pairwise_mergeSort tr to l
  have h2 : (l.mergeSort leB).Nodup := (List.mergeSort_perm l leB).nodup_iff.2 hn
  refine (List.pairwise_and_iff.2 ⟨h1, List.nodup_iff_pairwise_ne.1 h2⟩).imp fun {a b} h => ?_
  have h3 := h.1
  simp only [leB, decide_eq_true_eq] at h3
  rcases tlt_tri a b with q | q | q
  · exact q
  · exact absurd q h.2
  · exact absurd q (List.not_lt.2 h3)
/-- Two rising lists with the same members are one. -/
theorem srising_same {l m : List Txt} (h1 : l.Pairwise (fun a b => a < b)) (h2 : m.Pairwise (fun a b => a < b)) (h : ∀ i, i ∈ l ↔ i ∈ m) : l = m := by
  have n1 : l.Nodup := List.nodup_iff_pairwise_ne.2 (h1.imp fun {a b} h e => by rw [e] at h; exact tlt_irrefl _ h)
  have n2 : m.Nodup := List.nodup_iff_pairwise_ne.2 (h2.imp fun {a b} h e => by rw [e] at h; exact tlt_irrefl _ h)
  exact List.Perm.eq_of_pairwise (le := fun a b => a < b) (fun a b _ _ h1 h2 => absurd (tlt_trans h1 h2) (tlt_irrefl _)) h1 h2 ((List.perm_ext_iff_of_nodup n1 n2).2 h)

theorem chKeys_any (mb : Option Nat) (W : World) : Calls Tryz.prog 80 #[.map mb] W fun e w' => e = .returned (.func (.func 114) #[] #[.pointer (some ⟨W.heap.size, 0, none⟩)]) ∧ w' = W.alloc (.cells #[.map mb] 81) :=
  (callsIn_wide (n := 5)).1 (AnyZ.keys_in Tryz.keysS Fence.wide 5 trivial rfl mb W)

theorem str_own_shape {w : World} {base e n : Nat} {v : Value} {xs : List Value} (h : w.ownsRow base e 1 v n xs) : ∃ A c, v = .slice A n c ∧ n ≤ c := by
  rcases h.2 with ⟨rfl, rfl⟩ | ⟨g, cap, cur, rfl, hb, _, hnc, _⟩
  · exact ⟨none, 0, rfl, Nat.le_refl _⟩
  · exact ⟨_, cap, rfl, hnc⟩

set_option maxHeartbeats 1000000 in
/-- The changed keys, sorted: those of the list of changes. -/
theorem chSorted_any {w : World} {X : Nat → Prop} {b : Nat} {L : List (Txt × Option (List Int))} (h : MapL chVal w X b L) (hL : RiseT L) (hn : L.length ≤ 32767) :
    Calls Tryz.prog 79 #[.func (.func 114) #[] #[.pointer (some ⟨w.heap.size, 0, none⟩)]] (w.alloc (.cells #[.map (some b)] 81)) fun e w' =>
      ∃ (A : Option Addr) (c : Nat), e = .returned (.slice A L.length c) ∧ L.length ≤ c ∧ w'.ownsRow w.heap.size 9 1 (.slice A L.length c) L.length ((L.map (·.1)).map encStr) ∧ Below w.heap.size w w' := by
  obtain ⟨f, ⟨D, hD, hf⟩, h2⟩ := h
  obtain ⟨hnd, hmem⟩ := SMap.keys hD hf
  have hsz := hD.size_le
  have hbl := hD.lt
  have hseq : SeqGives Fence.wide 2 Tryz.prog 114 #[.pointer (some ⟨w.heap.size, 0, none⟩)] encStr (fun ss => ss.Perm (strKeys D)) (Maps.size D) (w.alloc (.cells #[.map (some b)] 81)) :=
    AnyZ.keys_gives (ρ := Tryz.keysS_ren) { Tryz.keysS with } Fence.wide _ trivial rfl (by omega) w.heap.size b L.length D _ (by simp) (by simp) (by
      obtain ⟨es, clock, hb, Ft, hs, hD⟩ := hD
      exact ⟨es, clock, (Below.heap_alloc _ _ b hbl).trans hb, Ft, hs, hD⟩)
  have cS := AnyZ.sorted_in Tryz.sortedS Fence.wide 5 trivial trivial trivial trivial rfl (by omega) (sortsS_laid _) (enters_of Tryz.func113 (by kernel_rfl) rfl) 114 #[.pointer (some ⟨w.heap.size, 0, none⟩)] trivial (enters_of Tryz.func114 (by kernel_rfl) rfl) _ _ (by unfold maxLen; omega) (by omega) _ hseq
  change CallsIn _ _ Tryz.prog 79 _ _ _ at cS
  refine ((callsIn_wide (n := 5)).1 cS).mono ?_
  rintro e w' ⟨v, ss, rfl, hS, hrow, hnil, hb⟩
  have hrow' := own_base_le hrow (show w.heap.size ≤ (w.alloc (.cells #[.map (some b)] 81)).heap.size by simp)
  have hp : (ss.mergeSort leB).Perm (strKeys D) := (List.mergeSort_perm ss leB).trans hS
  have hE : ss.mergeSort leB = L.map (·.1) := by
    refine srising_same (srising_of (hS.nodup_iff.2 hnd)) (List.pairwise_map.2 hL) fun i => ?_
    rw [hp.mem_iff, hmem i]
    constructor
    · intro hne
      cases hl : lookT L i with
      | none => exact absurd ((h2 i).1 hl) hne
      | some c => exact List.mem_map.2 ⟨_, lookT_mem hl, rfl⟩
    · intro hi
      obtain ⟨p, hp, rfl⟩ := List.mem_map.1 hi
      obtain ⟨u, e, _⟩ := (h2 p.1).2 _ (hL.look (show (p.1, p.2) ∈ L from hp))
      rw [e]
      intro h; cases h
  have hl : ss.length = L.length := by
    have := congrArg List.length hE
    rw [List.length_mergeSort, List.length_map] at this
    exact this
  have hrow2 : w'.ownsRow w.heap.size 9 1 v L.length ((L.map (·.1)).map encStr) := by
    rw [← hl, ← hE]
    exact hrow'
  obtain ⟨A, c, rfl, hc⟩ := str_own_shape hrow2
  exact ⟨A, c, rfl, hc, hrow2, ((Below.refl w.heap.size w).alloc (Nat.le_refl _) _).trans (hb.mono (by simp))⟩

end Go.Proofs.YtlpjggilkfpleaaGreat
