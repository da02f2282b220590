/-
  The texts PgA, RedoE, RedoLaw, PgB joined. Conditions: those that each part says at its head.
-/
import Derived.Test.YtfbljmkjiaklfaaGreatDoorG17
import Derived.Test.YtfbljmkjiaklfaaGreatDoorG18
import Derived.Test.YtfbljmkjiaklfaaGreatDoorG5
import Derived.Test.YtfbljmkjiaklfaaGreatDoorG8
import Derived.Test.YtfbljmkjiaklfaaGreatDoorG16

/-
  The pages that a map has, in order: the library's slices.Sorted over its maps.Keys, by contract over a map of whole numbers. Condition: at most 32,767 entries.
-/
namespace Go.Proofs.YtfbljmkjiaklfaaGreatDoor
open Go.RowKit Go.Maps Go.Sort Go.Shelf
set_option maxRecDepth 100000
set_option linter.unusedVariables false

theorem sorts_laid (m : Nat) : AnyZI.SortsIn Tryz.prog Tryz.sortedA_ren Fence.wide m :=
  ⟨fun blk off cap ss W hH hblk hsz => callsIn_wide.2 (AnyM.slices_Sort_int Tryz.sortA blk off cap ss W hH hblk hsz),
   fun p cap W => callsIn_wide.2 (AnyM.slices_Sort_int_none Tryz.sortA p cap W)⟩

/-- The keys of a map of whole numbers. -/
theorem IMap.keys {w : World} {b n : Nat} {f : Int → Option Value} {D : DataW Value} (hD : w.ownsMap Tryz.prog 3 asItself b n D) (hf : ∀ i : Int, Maps.has D (.int .i64 i) = (f i).isSome ∧ ∀ v z, f i = some v → D.atKey (.int .i64 i) z = .held v) :
    (intKeys D).Nodup ∧ ∀ i, i ∈ intKeys D ↔ f i ≠ none := by
  obtain ⟨es, rfl, hne, hkey⟩ := hD.entries int_key
  have hint : ∀ p ∈ es, ∃ i : Int, p.1 = .int .i64 i := by
    obtain ⟨es', c, hb, Ft, hs, he⟩ := hD
    intro p hp
    injection he with he
    rw [he] at hp
    obtain ⟨x, hx, rfl⟩ := List.mem_map.1 (mem_sorted.1 hp)
    obtain ⟨y, hy⟩ := Ft.reads x hx
    rw [WideElems.rg_of hy]
    obtain ⟨z, hz, hz2, _⟩ := Maps.keyOf_i64 Tryz.underlying3 (WideElems.rd_key hy)
    exact ⟨z, hz2⟩
  refine ⟨?_, fun i => ?_⟩
  · show (es.map fun p => Go.intOf p.1).Nodup
    rw [List.nodup_iff_pairwise_ne, List.pairwise_map]
    refine hne.imp_of_mem fun {p q} hp hq hpq e => hpq ?_
    obtain ⟨i, hi⟩ := hint p hp
    obtain ⟨j, hj⟩ := hint q hq
    rw [hi, hj] at e ⊢
    have : i = j := e
    rw [this]
  · have h1 := (hf i).1
    rw [Maps.has_eq] at h1
    show i ∈ es.map (fun p => Go.intOf p.1) ↔ _
    rw [List.mem_map]
    constructor
    · rintro ⟨p, hp, rfl⟩ e0
      obtain ⟨j, hj⟩ := hint p hp
      rw [hj] at e0 h1
      have e1 : f j = none := e0
      have h2 : es.any (fun p => p.1.sameKey (.int .i64 j)) = true := List.any_eq_true.2 ⟨p, hp, by rw [hj]; simp [Lit.sameKey]⟩
      have h3 : es.any (fun p => p.1.sameKey (.int .i64 j)) = (f j).isSome := h1
      rw [h2, e1] at h3
      cases h3
    · intro hne0
      have h2 : es.any (fun p => p.1.sameKey (.int .i64 i)) = true := by
        rw [h1]
        cases hfi : f i with
        | none => exact absurd hfi hne0
        | some v => rfl
      obtain ⟨p, hp, hk⟩ := List.any_eq_true.1 h2
      obtain ⟨j, hj⟩ := hint p hp
      refine ⟨p, hp, ?_⟩
      rw [hj] at hk ⊢
      simpa [Lit.sameKey, Go.intOf] using hk

theorem rising_of {l : List Int} (hn : l.Nodup) : (l.mergeSort leI).Pairwise (fun a b => a < b) := by
  have tr : ∀ a b c : Int, leI a b = true → leI b c = true → leI a c = true := fun a b c h1 h2 => by simp only [leI, decide_eq_true_eq] at *; exact Int.le_trans h1 h2
  have to : ∀ a b : Int, (leI a b || leI b a) = true := fun a b => by simp only [leI, Bool.or_eq_true, decide_eq_true_eq]; exact Int.le_total a b
  have h1 := List.pairwise_mergeSort tr to l
  have h2 : (l.mergeSort leI).Nodup := (List.mergeSort_perm l leI).nodup_iff.2 hn
  refine (List.pairwise_and_iff.2 ⟨h1, List.nodup_iff_pairwise_ne.1 h2⟩).imp fun {a b} h => ?_
  have := h.1
  simp only [leI, decide_eq_true_eq] at this
  have := h.2
  omega
theorem rising_same {l m : List Int} (h1 : l.Pairwise (fun a b => a < b)) (h2 : m.Pairwise (fun a b => a < b)) (h : ∀ i, i ∈ l ↔ i ∈ m) : l = m := by
  have n1 : l.Nodup := List.nodup_iff_pairwise_ne.2 (h1.imp fun {a b} h => by omega)
  have n2 : m.Nodup := List.nodup_iff_pairwise_ne.2 (h2.imp fun {a b} h => by omega)
  refine List.Perm.eq_of_pairwise (le := fun a b => a < b) (fun a b _ _ h1 h2 => by omega) h1 h2 ((List.perm_ext_iff_of_nodup n1 n2).2 h)

theorem mapKeys_any (mb : Option Nat) (W : World) : Calls Tryz.prog 131 #[.map mb] W fun e w' => e = .returned (.func (.func 186) #[] #[.pointer (some ⟨W.heap.size, 0, none⟩)]) ∧ w' = W.alloc (.cells #[.map mb] 114) :=
  (callsIn_wide (n := 5)).1 (AnyZI.keys_in Tryz.keysA Fence.wide 5 trivial rfl mb W)

set_option maxHeartbeats 1000000 in
theorem sortedKeys_any {w : World} {b n : Nat} {f : Int → Option Value} (h : IMap w b n f) (hn : n ≤ 32767) :
    Calls Tryz.prog 130 #[.func (.func 186) #[] #[.pointer (some ⟨w.heap.size, 0, none⟩)]] (w.alloc (.cells #[.map (some b)] 114)) fun e w' =>
      ∃ (A : Option Addr) (c : Nat) (l : List Int), e = .returned (.slice A l.length c) ∧ l.length ≤ c ∧ l.Pairwise (fun a b => a < b) ∧ (∀ i, i ∈ l ↔ f i ≠ none) ∧ w'.ownsRow w.heap.size 3 1 (.slice A l.length c) l.length (l.map (Value.int .i64)) ∧ Below w.heap.size w w' := by
  obtain ⟨D, hD, hf⟩ := h
  obtain ⟨hnd, hmem⟩ := IMap.keys hD hf
  have hsz := hD.size_le
  have hbl := hD.lt
  have hseq : SeqGives Fence.wide 2 Tryz.prog 186 #[.pointer (some ⟨w.heap.size, 0, none⟩)] encZ (fun ss => ss.Perm (intKeys D)) (Maps.size D) (w.alloc (.cells #[.map (some b)] 114)) :=
    AnyZI.keys_gives (ρ := Tryz.keysA_ren) { Tryz.keysA with } Fence.wide _ trivial rfl (by omega) w.heap.size b n D _ (by simp) (by simp) (by
      obtain ⟨es, clock, hb, Ft, hs, hD⟩ := hD
      exact ⟨es, clock, (Below.heap_alloc _ _ b hbl).trans hb, Ft, hs, hD⟩)
  have cS := AnyZI.sorted_in Tryz.sortedA Fence.wide 5 trivial trivial trivial trivial rfl (by omega) (sorts_laid _) (enters_of Tryz.func15 (by kernel_rfl) rfl) 186 #[.pointer (some ⟨w.heap.size, 0, none⟩)] trivial (enters_of Tryz.func186 (by kernel_rfl) rfl) _ _ (by unfold maxLen; omega) (by omega) _ hseq
  change CallsIn _ _ Tryz.prog 130 _ _ _ at cS
  refine ((callsIn_wide (n := 5)).1 cS).mono ?_
  rintro e w' ⟨v, ss, rfl, hS, hrow, hnil, hb⟩
  have hrow' := own_base_le hrow (show w.heap.size ≤ (w.alloc (.cells #[.map (some b)] 114)).heap.size by simp)
  have hl : (ss.mergeSort leI).length = ss.length := List.length_mergeSort ss
  rw [← hl] at hrow'
  obtain ⟨A, c, rfl, hc⟩ := int_own_shape hrow'
  have hp : (ss.mergeSort leI).Perm (intKeys D) := (List.mergeSort_perm ss leI).trans hS
  refine ⟨A, c, ss.mergeSort leI, rfl, hc, rising_of (hS.nodup_iff.2 hnd), fun i => (hp.mem_iff).trans (hmem i), hrow', ((Below.refl w.heap.size w).alloc (Nat.le_refl _) _).trans (hb.mono (by simp))⟩

end Go.Proofs.YtfbljmkjiaklfaaGreatDoor

/-
  Plain: a log of a disk on which nothing fails: Format, Open and Commit succeed, how many sectors they write, and what the pages are then. No program.
-/
namespace Go.Proofs.YtfbljmkjiaklfaaGreatDoor
open Go.RowKit
set_option maxRecDepth 100000
set_option linter.unusedVariables false

theorem pageIn_len (n : Int) (f : Nat → List Int) (p : Int) : (pageIn n f p).length = 240 := by
  unfold pageIn
  by_cases h : (unpackR (f (p + 1 + pagesOf n).toNat)).2.2.2 ≠ 0 ∨ (unpackR (f (p + 1 + pagesOf n).toNat)).1 ≠ p
  · rw [if_pos h]; exact zpage_ok.1
  · rw [if_neg h]
    have h0 : (unpackR (f (p + 1 + pagesOf n).toNat)).2.2.2 = 0 := Classical.not_not.1 (fun e => h (.inl e))
    generalize f (p + 1 + pagesOf n).toNat = l at h0 ⊢
    have hl := (unpack_page h0).2.2
    unfold unpackR at h0 ⊢
    by_cases hs : isSec l
    · rw [if_pos hs]
      show (l.drop 16).length = 240
      rw [List.length_drop, hl]
    · rw [if_neg hs] at h0; cases h0

section
variable {S : DS} {f g : Nat → List Int} {n seq : Int}

theorem Free.write_count (h : Free S) {i : Int} {l : List Int} (hi : 0 ≤ i ∧ i < S.n) (hl : l.length = 256) : (S.write i l).writes = S.writes + 1 := by
  obtain ⟨e, _⟩ := h.write hi hl
  rw [(write_done e).2]
  rfl
theorem Free.put (l : List (Int × List Int)) : ∀ {S : DS}, Free S → (∀ x ∈ l, (0 ≤ x.1 ∧ x.1 < S.n) ∧ x.2.length = 256) → (putS S l).1 = 0 ∧ Free (putS S l).2 ∧ (putS S l).2.writes = S.writes + l.length := by
  induction l with
  | nil =>
    intro S h _
    obtain ⟨h1, h2⟩ := h.flush
    refine ⟨h1, h2, ?_⟩
    show S.flush.writes = _
    rw [(flush_done h1).2]; rfl
  | cons x r ih =>
    intro S h hv
    obtain ⟨v1, v2⟩ := hv _ (List.mem_cons_self ..)
    obtain ⟨h1, h2, h3⟩ := h.write v1 v2
    have h4 := h.write_count v1 v2
    rw [putS_cons, thenS_ok (show (S.wr x.1 x.2).1 = 0 from h1)]
    obtain ⟨q1, q2, q3⟩ := ih (S := (S.wr x.1 x.2).2) h2 (fun y hy => by
      have e : (S.wr x.1 x.2).2.n = S.n := h3
      rw [e]
      exact hv y (List.mem_cons_of_mem _ hy))
    refine ⟨q1, q2, ?_⟩
    rw [q3, List.length_cons, show (S.wr x.1 x.2).2.writes = S.writes + 1 from h4]
    omega

theorem free_mark (h : Free S) (hn : 3 ≤ S.n) {c s : Int} (hs : secR c s = true) : (markS S c s).1 = 0 ∧ Free (markS S c s).2 ∧ (markS S c s).2.n = S.n ∧ (markS S c s).2.writes = S.writes + 1 ∧ Rests (markS S c s).2 (putF S.last 0 (secL c s zpage)) := by
  have hl : (secL c s zpage).length = 256 := by rw [secL_length, zpage_ok.1]
  rw [markS_sec S hs]
  obtain ⟨h1, h2, h3⟩ := h.write (i := 0) (l := secL c s zpage) (by omega) hl
  have h4 := h.write_count (i := 0) (l := secL c s zpage) (by omega) hl
  rw [thenS_ok (show (S.wr 0 (secL c s zpage)).1 = 0 from h1)]
  have hw := (write_done h1).2
  obtain ⟨f1, f2⟩ := h2.flush
  have hf := flush_done f1
  show (S.write 0 (secL c s zpage)).flushE = 0 ∧ Free (S.write 0 (secL c s zpage)).flush ∧ (S.write 0 (secL c s zpage)).flush.n = S.n ∧ (S.write 0 (secL c s zpage)).flush.writes = S.writes + 1 ∧ Rests (S.write 0 (secL c s zpage)).flush (putF S.last 0 (secL c s zpage))
  refine ⟨f1, f2, (P_flush _).trans h3, ?_, ?_⟩
  · rw [hf.2]; exact h4
  · rw [hf.2]
    have e : (S.write 0 (secL c s zpage)).last = putF S.last 0 (secL c s zpage) := by rw [hw]; rfl
    exact ⟨e, e, hf.1⟩

theorem free_commit {l : List (Int × List Int)} (hn : n = S.n) (hn3 : 3 ≤ n) (hI : Imgs n seq l) (hne : l ≠ []) (h : Free S) (hR : Rests S f) :
    (commitS S seq l).1 = 0 ∧ (commitS S seq l).2.1 = seq + 1 ∧ Free (commitS S seq l).2.2 ∧ (commitS S seq l).2.2.n = S.n ∧ (commitS S seq l).2.2.writes = S.writes + (2 * l.length + 1) ∧ Rests (commitS S seq l).2.2 (putH n (marked f seq l) (packs (seq + 1) l)) := by
  obtain ⟨g1, g2⟩ := commit_leaves hn hI hne hR
  have hP : S.P = pagesOf n := by unfold DS.P; rw [hn]
  have hpn := (pagesOf_nn n).2.1 hn3
  have h4 := (pagesOf_nn n).2.2
  have hright : rightS S l := ⟨fun x hx => by rw [hP]; exact hI.page x hx, hI.once⟩
  have hfew := hI.few
  have h0 := hI.seq0
  have h1 := hI.seq1
  have he : rightE S l = 0 := by unfold rightE; rw [if_neg (by rw [hP]; omega), if_pos hright]
  have hsec : secR l.length (seq + 1) = true := decide_eq_true ⟨by omega, by omega, by omega, by omega⟩
  rw [commitS_is he hne] at g1 g2 ⊢
  have hsl : ∀ (l' : List (Int × List Int)) (i : Nat), ((i : Int) + l'.length + 1 ≤ S.n) → (∀ x ∈ l', x.2.length = 256) → ∀ x ∈ atSlots i l', (0 ≤ x.1 ∧ x.1 < S.n) ∧ x.2.length = 256 := by
    intro l'
    induction l' with
    | nil => intro i _ _ x hx; cases hx
    | cons y r ih =>
      intro i hi hy x hx
      simp only [List.length_cons] at hi
      rcases List.mem_cons.1 hx with rfl | hx
      · exact ⟨⟨by show 0 ≤ (i : Int) + 1; omega, by show (i : Int) + 1 < S.n; omega⟩, hy y (List.mem_cons_self ..)⟩
      · exact ih (i + 1) (by omega) (fun z hz => hy z (List.mem_cons_of_mem _ hz)) x hx
  obtain ⟨p1, p2, p3⟩ := h.put (atSlots 0 (packs (seq + 1) l)) (hsl _ 0 (by rw [packs_length]; omega) (fun x hx => (hI.mem hx).2))
  have p4 := (putS_more (atSlots 0 (packs (seq + 1) l)) S).2
  rw [atSlots_length, packs_length] at p3
  have ec : commitP S seq l = commitM (putS S (atSlots 0 (packs (seq + 1) l))).2 seq l := if_neg (fun e => e p1)
  obtain ⟨m1, m2, m3, m4, _⟩ := free_mark p2 (by rw [p4]; omega) hsec
  have em : commitM (putS S (atSlots 0 (packs (seq + 1) l))).2 seq l = _ := if_neg (fun e => e m1)
  have hPM : (markS (putS S (atSlots 0 (packs (seq + 1) l))).2 l.length (seq + 1)).2.P = pagesOf n := by unfold DS.P; rw [m3, p4, hn]
  obtain ⟨q1, q2, q3⟩ := m2.put (atHomes (pagesOf n) (packs (seq + 1) l)) (fun x hx => by
    obtain ⟨z, hz, rfl⟩ := List.mem_map.1 hx
    obtain ⟨⟨a, b⟩, c⟩ := hI.mem hz
    refine ⟨⟨by show 0 ≤ z.1 + 1 + pagesOf n; omega, ?_⟩, c⟩
    show z.1 + 1 + pagesOf n < _
    rw [m3, p4]; omega)
  have hph := putS_homes (packs (seq + 1) l) (markS (putS S (atSlots 0 (packs (seq + 1) l))).2 l.length (seq + 1)).2
  rw [hPM] at hph
  rw [hph] at q1 q2 q3
  have eall : commitP S seq l = ((homesS (markS (putS S (atSlots 0 (packs (seq + 1) l))).2 l.length (seq + 1)).2 (packs (seq + 1) l)).1, seq + 1, (homesS (markS (putS S (atSlots 0 (packs (seq + 1) l))).2 l.length (seq + 1)).2 (packs (seq + 1) l)).2) := ec.trans em
  rw [eall] at g1 g2 ⊢
  refine ⟨q1, rfl, q2, g1, ?_, ?_⟩
  · show (homesS _ _).2.writes = _
    rw [q3, m4, p3]
    simp [atHomes, packs_length]
    omega
  · rcases g2 with ⟨a, _⟩ | ⟨_, b⟩
    · exact absurd q1 a
    · exact b q1

theorem putH_at (l : List (Int × List Int)) : ∀ {f : Nat → List Int}, (l.map (·.1)).Nodup → (∀ x ∈ l, 0 ≤ x.1) → 0 ≤ pagesOf n → ∀ x ∈ l, putH n f l (x.1 + 1 + pagesOf n).toNat = x.2 := by
  induction l with
  | nil => intro f _ _ _ x hx; cases hx
  | cons y r ih =>
    intro f hnd h0 hn x hx
    rw [List.map_cons, List.nodup_cons] at hnd
    show putH n (putF f _ y.2) r _ = x.2
    rcases List.mem_cons.1 hx with rfl | hx
    · rw [putH_far r _ (fun z hz e => by
        have a := h0 x (List.mem_cons_self ..)
        have b := h0 z (List.mem_cons_of_mem _ hz)
        exact hnd.1 (List.mem_map.2 ⟨z, hz, by omega⟩)), putF, if_pos rfl]
    · exact ih hnd.2 (fun z hz => h0 z (List.mem_cons_of_mem _ hz)) hn x hx

/-- The pages behind a commit. -/
theorem pages_marked {l : List (Int × List Int)} (hI : Imgs n seq l) : (∀ x ∈ l, pageIn n (putH n (marked f seq l) (packs (seq + 1) l)) x.1 = x.2) ∧ ∀ p, 0 ≤ p → p < pagesOf n → (∀ x ∈ l, x.1 ≠ p) → pageIn n (putH n (marked f seq l) (packs (seq + 1) l)) p = pageIn n f p := by
  have hnn := (pagesOf_nn n).1
  have hfst : (packs (seq + 1) l).map (·.1) = l.map (·.1) := by unfold packs; rw [List.map_map]; rfl
  refine ⟨fun x hx => ?_, fun p h0 h1 hno => ?_⟩
  · obtain ⟨e1, e2, e3⟩ := hI.pack hx
    have hm : (x.1, (packR x.1 (seq + 1) x.2).1) ∈ packs (seq + 1) l := List.mem_map.2 ⟨x, hx, rfl⟩
    have := putH_at (n := n) (packs (seq + 1) l) (f := marked f seq l) (by rw [hfst]; exact hI.once) (fun z hz => (hI.mem hz).1.1) hnn _ hm
    unfold pageIn
    rw [show putH n (marked f seq l) (packs (seq + 1) l) (x.1 + 1 + pagesOf n).toNat = secL x.1 (seq + 1) x.2 from this.trans e1, e2, if_neg (by simp)]
  · have e : putH n (marked f seq l) (packs (seq + 1) l) (p + 1 + pagesOf n).toNat = f (p + 1 + pagesOf n).toNat := by
      rw [putH_far _ _ (fun z hz e => by
        have a := (hI.mem hz).1.1
        obtain ⟨x, hx, e2⟩ := List.mem_map.1 hz
        have : x.1 = z.1 := by rw [← e2]
        exact hno x hx (by omega))]
      exact (view_marked hI).2.2 _ (by omega)
    unfold pageIn
    rw [e]
end

/-- A log that was just made. -/
def fresh1 : Nat → List Int := putF (fun _ => nought) 0 (secL 0 1 zpage)
theorem fresh1_mark : unpackR (fresh1 0) = (0, 1, zpage, 0) := by
  unfold fresh1 putF
  rw [if_pos rfl]
  exact unpack_pack zpage_ok.2 (by decide) zpage_ok.1
theorem fresh1_opened (n : Int) : listed n fresh1 = some [] ∧ opened n fresh1 = fresh1 := by
  have hnn := (pagesOf_nn n).1
  have e : listed n fresh1 = some [] := by
    unfold listed
    rw [fresh1_mark]
    exact slotsOf_of hnn rfl
  exact ⟨e, opened_some e⟩
theorem fresh_log {m : Nat} (h : 3 ≤ m ∧ m ≤ 65536) : (markS (DS.new m) 0 1).1 = 0 ∧ (openS (markS (DS.new m) 0 1).2).1 = 0 ∧ (openS (markS (DS.new m) 0 1).2).2.1 = 1 ∧ Free (openS (markS (DS.new m) 0 1).2).2.2 ∧ (openS (markS (DS.new m) 0 1).2).2.2.n = m ∧ (openS (markS (DS.new m) 0 1).2).2.2.writes = 1 ∧ Rests (openS (markS (DS.new m) 0 1).2).2.2 fresh1 := by
  have hF : Free (DS.new m) := ⟨rfl, rfl⟩
  obtain ⟨h1, h2, h3, h4, h5⟩ := free_mark hF (c := 0) (s := 1) (show 3 ≤ m from h.1) (by decide)
  have h5' : Rests (markS (DS.new m) 0 1).2 fresh1 := h5
  have h3' : (markS (DS.new m) 0 1).2.n = m := h3
  obtain ⟨o1, o2, o3, o4, o5⟩ := open_free (n := (m : Int)) (by rw [h3']) (by omega) h2 h5' (by rw [fresh1_mark])
  rw [fresh1_mark] at o2
  rw [(fresh1_opened _).2] at o3
  refine ⟨h1, o1, o2, o4, o5.trans h3', ?_, o3⟩
  have hw : (markS (DS.new m) 0 1).2.writes = 1 := h4
  generalize hS : (markS (DS.new m) 0 1).2 = S at *
  have hl : S.last = fresh1 := h5'.last
  have e : (openS S).2.2 = (homesS S []).2 := by
    unfold openS
    rw [if_neg (by simp [h2.up]), hl, if_neg (by rw [fresh1_mark]; simp)]
    have hls := (fresh1_opened (m : Int)).1
    unfold listed at hls
    rw [h3', hls]
    simp only []
    rw [if_neg (fun h' => h' (h2.flush.1))]
  rw [e]
  show S.flush.writes = 1
  rw [(flush_done h2.flush.1).2]
  exact hw

end Go.Proofs.YtfbljmkjiaklfaaGreatDoor

/-
  A law's own disk and log, worked on call by call, over any disk that answers as it is to. Conditions: those of the contracts; the table that crc.Step reads holds what the program's text lays in it when the law begins.
-/
namespace Go.Proofs.YtfbljmkjiaklfaaGreatDoor
open Go.RowKit
set_option maxRecDepth 100000
set_option linter.unusedVariables false

/-- In w the law's disk S lies at p in blocks of the law's own, F; what was there when the law began (w0) stands, the table among it. -/
structure LawD (D : World → (Nat → Prop) → Addr → DS → Prop) (w0 w : World) (F : Nat → Prop) (p : Addr) (S : DS) : Prop where
  d : D w F p S
  out : ∀ k, F k → w0.heap.size ≤ k
  bel : Below w0.heap.size w0 w
  tab : Tab w0 ∧ 1 < w0.heap.size
/-- .. and a log of it at q. -/
structure LawL (D : World → (Nat → Prop) → Addr → DS → Prop) (w0 w : World) (F : Nat → Prop) (p : Addr) (S : DS) (q : Nat) (seq : Int) : Prop extends LawD D w0 w F p S where
  log : PLog w q p seq
  qF : ¬ F q
  q0 : w0.heap.size ≤ q

section
variable {D : World → (Nat → Prop) → Addr → DS → Prop} {w0 w w' : World} {F F' : Nat → Prop} {p : Addr} {S S' : DS} {q : Nat} {seq : Int}

theorem LawD.tabF (h : LawD D w0 w F p S) : TabF w F := ⟨h.tab.1.below h.bel h.tab.2, Nat.lt_of_lt_of_le h.tab.2 h.bel.size, fun hf => by have := h.out _ hf; have := h.tab.2; omega⟩
theorem LawD.lt (api : DiskApi D) (h : LawD D w0 w F p S) : ∀ k, F k → k < w.heap.size := api.lt w F p S h.d
theorem LawD.later (api : DiskApi D) (h : LawD D w0 w F p S) (hb : Below w.heap.size w w') : LawD D w0 w' F p S := ⟨api.below h.d hb, h.out, h.bel.trans (hb.mono h.bel.size), h.tab⟩
theorem LawD.next (h : LawD D w0 w F p S) (hd : D w' F' p S') (ht : Touch F w w') (hF : ∀ k, F' k → F k ∨ w.heap.size ≤ k) : LawD D w0 w' F' p S' :=
  ⟨hd, fun k hk => by
    rcases hF k hk with a | a
    · exact h.out k a
    · exact Nat.le_trans h.bel.size a, h.bel.trans (ht.below h.out h.bel.size), h.tab⟩
theorem LawL.later (api : DiskApi D) (h : LawL D w0 w F p S q seq) (hb : Below w.heap.size w w') : LawL D w0 w' F p S q seq := ⟨h.toLawD.later api hb, h.log.below hb, h.qF, h.q0⟩
theorem LawL.next (h : LawL D w0 w F p S q seq) (hd : D w' F' p S') (ht : Touch F w w') (hF : ∀ k, F' k → F k ∨ w.heap.size ≤ k) : LawL D w0 w' F' p S' q seq :=
  ⟨h.toLawD.next hd ht hF, h.log.keep (ht.block q h.log.cells.2.2.2 h.qF), fun hf => by
    rcases hF q hf with a | a
    · exact h.qF a
    · have := h.log.cells.2.2.2; omega, h.q0⟩

theorem law_new (api : DiskApi D) {n : Int} (h1 : 3 ≤ n) (h2 : n ≤ 65536) (ht : Tab w0 ∧ 1 < w0.heap.size) (hb : Below w0.heap.size w0 w) : Calls Tryz.prog 21 #[.int .i64 n] w fun e w' => ∃ (p : Addr) (F : Nat → Prop), e = .returned (.tuple #[.pointer (some p), .int .i64 0]) ∧ LawD D w0 w' F p (DS.new n.toNat) ∧ Below w.heap.size w w' := by
  refine (api.new n w h1 h2).mono ?_
  rintro e w' ⟨p, F, rfl, hd, hb', hF⟩
  exact ⟨p, F, rfl, ⟨hd, fun k hk => Nat.le_trans hb.size (hF k hk), hb.trans (hb'.mono hb.size), ht⟩, hb'⟩
theorem law_format (api : DiskApi D) (h : LawD D w0 w F p S) (hw : S.writes ≤ 9223372036854775800) : Calls Tryz.prog 22 #[.pointer (some p)] w fun e w' => e = .returned (.int .i64 (markS S 0 1).1) ∧ ∃ F', LawD D w0 w' F' p (markS S 0 1).2 ∧ Touch F w w' ∧ ∀ k, F' k → F k ∨ w.heap.size ≤ k := by
  refine (format_any api h.d h.tabF hw).mono ?_
  rintro e w' ⟨rfl, F', d, t, n⟩
  exact ⟨rfl, F', h.next d t n, t, n⟩
theorem law_open (api : DiskApi D) (h : LawD D w0 w F p S) (hw : S.writes ≤ 9223372036854700000) : Calls Tryz.prog 23 #[.pointer (some p)] w fun e w' =>
    ((openS S).1 ≠ 0 ∧ e = .returned (.tuple #[.pointer none, .int .i64 (openS S).1]) ∧ ∃ F', LawD D w0 w' F' p (openS S).2.2 ∧ Touch F w w' ∧ ∀ k, F' k → F k ∨ w.heap.size ≤ k) ∨
    ((openS S).1 = 0 ∧ ∃ q F', e = .returned (.tuple #[.pointer (some ⟨q, 0, none⟩), .int .i64 0]) ∧ w.heap.size ≤ q ∧ LawL D w0 w' F' p (openS S).2.2 q (openS S).2.1 ∧ Touch F w w' ∧ ∀ k, F' k → F k ∨ w.heap.size ≤ k) := by
  refine (open_any api h.d h.tabF hw).mono ?_
  rintro e w' (⟨h1, rfl, F', d, t, n⟩ | ⟨h1, q, F', rfl, hq, hl, hqF, d, t, n⟩)
  · exact .inl ⟨h1, rfl, F', h.next d t n, t, n⟩
  · exact .inr ⟨h1, q, F', rfl, hq, ⟨h.next d t n, hl, hqF, Nat.le_trans h.bel.size hq⟩, t, n⟩
/-- Open where it can't fail. -/
theorem law_open_ok (api : DiskApi D) (h : LawD D w0 w F p S) (hw : S.writes ≤ 9223372036854700000) (h0 : (openS S).1 = 0) : Calls Tryz.prog 23 #[.pointer (some p)] w fun e w' =>
    ∃ q F', e = .returned (.tuple #[.pointer (some ⟨q, 0, none⟩), .int .i64 0]) ∧ w.heap.size ≤ q ∧ LawL D w0 w' F' p (openS S).2.2 q (openS S).2.1 ∧ Touch F w w' ∧ ∀ k, F' k → F k ∨ w.heap.size ≤ k := by
  refine (law_open api h hw).mono ?_
  rintro e w' (⟨h1, _⟩ | ⟨_, h2⟩)
  · exact absurd h0 h1
  · exact h2
/-- Open, whatever it answers. -/
theorem law_open_some (api : DiskApi D) (h : LawD D w0 w F p S) (hw : S.writes ≤ 9223372036854700000) : Calls Tryz.prog 23 #[.pointer (some p)] w fun e w' =>
    ∃ v F', e = .returned (.tuple #[v, .int .i64 (openS S).1]) ∧ LawD D w0 w' F' p (openS S).2.2 ∧ Touch F w w' ∧ ∀ k, F' k → F k ∨ w.heap.size ≤ k := by
  refine (law_open api h hw).mono ?_
  rintro e w' (⟨h1, rfl, F', d, t, n⟩ | ⟨h1, q, F', rfl, _, d, t, n⟩)
  · exact ⟨_, F', rfl, d, t, n⟩
  · exact ⟨_, F', by rw [h1], d.toLawD, t, n⟩
theorem law_commit (api : DiskApi D) (h : LawL D w0 w F p S q seq) {A : Option Addr} {n c : Nat} {l : List (Int × List Int)} (hl : RImgs w (orAt F q) A n l) (hby : ∀ y ∈ l, AllBytes y.2) (hin : ∀ y ∈ l, -9223372036854775808 ≤ y.1 ∧ y.1 ≤ 9223372036854775807) (hn : n ≤ 65536) (hs : 0 ≤ seq ∧ seq < 4611686018427387904) (hw : S.writes ≤ 9223372036854500000) :
    Calls Tryz.prog 75 #[.pointer (some ⟨q, 0, none⟩), .slice A n c] w fun e w' => e = .returned (.int .i64 (commitS S seq l).1) ∧ ∃ F', LawL D w0 w' F' p (commitS S seq l).2.2 q (commitS S seq l).2.1 ∧ Touch (orAt F q) w w' ∧ ∀ k, F' k → F k ∨ w.heap.size ≤ k := by
  refine (commit_any (c := c) api h.d h.log h.qF h.tabF hl hby hin hn hs hw).mono ?_
  rintro e w' ⟨rfl, F', d, hlog, hqF, t, n⟩
  refine ⟨rfl, F', ⟨⟨d, fun k hk => ?_, h.bel.trans (t.below (fun k hk => ?_) h.bel.size), h.tab⟩, hlog, hqF, h.q0⟩, t, n⟩
  · rcases n k hk with a | a
    · exact h.out k a
    · exact Nat.le_trans h.bel.size a
  · rcases hk with a | rfl
    · exact h.out k a
    · exact h.q0
theorem law_load (api : DiskApi D) (h : LawL D w0 w F p S q seq) (pg : Int) (hpg : -9223372036854775808 ≤ pg ∧ pg ≤ 9223372036854775807) : Calls Tryz.prog 82 #[.pointer (some ⟨q, 0, none⟩), .int .i64 pg] w fun e w' => ∃ A n c, e = .returned (.tuple #[.slice A n c, .int .i64 (loadS S pg).2]) ∧ n ≤ c ∧ RB w' w'.heap.size A n (loadS S pg).1 ∧ LawL D w0 w' F p S q seq ∧ Below w.heap.size w w' := by
  refine (load_any api h.d h.log h.tabF pg hpg).mono ?_
  rintro e w' ⟨A, n, c, rfl, hc, hr, hb⟩
  exact ⟨A, n, c, rfl, hc, hr, h.later api hb, hb⟩
theorem law_pages (api : DiskApi D) (h : LawL D w0 w F p S q seq) : Calls Tryz.prog 65 #[.pointer (some ⟨q, 0, none⟩)] w fun e w' => e = .returned (.int .i64 (pagesOf S.n)) ∧ w' = w := pages_same api h.d h.log
/-- The beginning of a law: a disk that was made, formatted and opened. -/
theorem law_fresh_open {m : Nat} (hm : 3 ≤ m ∧ m ≤ 65536) : (markS (DS.new m) 0 1).2.writes ≤ 9223372036854700000 := by
  have hF : Free (DS.new m) := ⟨rfl, rfl⟩
  obtain ⟨_, _, _, h4, _⟩ := free_mark hF (c := 0) (s := 1) (show 3 ≤ m from hm.1) (by decide)
  rw [h4]
  show 0 + 1 ≤ 9223372036854700000
  omega
end

end Go.Proofs.YtfbljmkjiaklfaaGreatDoor

/-
  Contracts of the program's pager, but Commit: made, Pages, Changed, Get, Set, Abort, New. Conditions: the table that crc.Step reads holds what the program's text lays in it (Get); numbers are ints.
-/
namespace Go.Proofs.YtfbljmkjiaklfaaGreatDoor
open Go.RowKit
set_option maxRecDepth 100000
set_option linter.unusedVariables false

section
variable {D : World → (Nat → Prop) → Addr → DS → Prop} {w w' : World} {F O : Nat → Prop} {p : Addr} {S : DS} {q r b : Nat} {seq : Int} {L : List (Int × List Int)}

set_option maxHeartbeats 400000 in
theorem pmade_any (h : PgAt D w F O p S q seq r b L) : Calls Tryz.prog 73 #[.pointer (some ⟨r, 0, none⟩)] w fun e w' => e = .returned (.bool true) ∧ w = w' := by
  obtain ⟨l0, l1, l2⟩ := h.cells
  clear h
  go_enter Tryz.func73, Tryz.ntmps73
  go_wp2
  go_ret
  exact ⟨rfl, rfl⟩

set_option maxHeartbeats 400000 in
theorem ppages_any (api : DiskApi D) (h : PgAt D w F O p S q seq r b L) : Calls Tryz.prog 36 #[.pointer (some ⟨r, 0, none⟩)] w fun e w' => e = .returned (.int .i64 (pagesOf S.n)) ∧ w' = w := by
  obtain ⟨l0, l1, l2⟩ := h.cells
  have HM := Lib.hid (pmade_any h)
  have HP := Lib.hid (pages_same api h.d h.log)
  clear h
  go_enter Tryz.func36, Tryz.ntmps36
  go_wp2_with fail
  refine HM.out.mono ?_
  rintro e w1 ⟨rfl, rfl⟩
  go_wp2_with fail
  refine HP.out.mono ?_
  rintro e w1 ⟨rfl, hw⟩
  have hw := hw.symm
  subst hw
  go_wp2
  go_ret
  exact ⟨rfl, rfl⟩

theorem PgSet.sup {X : Nat → Prop} (h : PgSet w X O b L) : ∃ f, IMap w b L.length f ∧ ∀ i, f i ≠ none ↔ atL L i ≠ none := by
  obtain ⟨f, h1, h2⟩ := h
  refine ⟨f, h1, fun i => ⟨fun hf e => hf ((h2 i).1 e), fun ha e => ?_⟩⟩
  cases hl : atL L i with
  | none => exact ha hl
  | some l =>
    obtain ⟨g, c, e1, _⟩ := (h2 i).2 l hl
    rw [e1] at e
    cases e
theorem atL_ne {i : Int} (h : Rising L) : atL L i ≠ none ↔ i ∈ L.map (·.1) := by
  constructor
  · intro hne
    cases hl : atL L i with
    | none => exact absurd hl hne
    | some l => exact List.mem_map.2 ⟨_, atL_mem hl, rfl⟩
  · intro hm e
    obtain ⟨x, hx, rfl⟩ := List.mem_map.1 hm
    rw [h.at_ (i := x.1) (l := x.2) hx] at e
    cases e

set_option maxHeartbeats 800000 in
theorem pchanged_any (api : DiskApi D) (h : PgAt D w F O p S q seq r b L) : Calls Tryz.prog 74 #[.pointer (some ⟨r, 0, none⟩)] w fun e w' => ∃ (A : Option Addr) (c : Nat), e = .returned (.slice A L.length c) ∧ L.length ≤ c ∧ RI w' w'.heap.size A L.length (L.map (·.1)) ∧ Below w.heap.size w w' := by
  obtain ⟨l0, l1, l2⟩ := h.cells
  have HM := Lib.hid (pmade_any h)
  obtain ⟨f, hf, hsup⟩ := h.set.sup
  have hb := pagesOf_bounds (S.n : Int)
  have hfew := few_set h.up h.all
  have hup := h.up
  have hall := h.all
  have HK := Lib.hid (mapKeys_any (some b) w)
  have HS := Lib.hid (sortedKeys_any hf (by unfold DS.P at hfew; omega))
  have HSUP := Lib.hid (fun i => (hsup i).trans (atL_ne hup))
  have HUP := Lib.hid (And.intro hup (And.intro hall hb))
  clear h hf hsup hfew hup hall hb
  go_enter Tryz.func74, Tryz.ntmps74
  go_wp2_with fail
  refine HM.out.mono ?_
  rintro e w1 ⟨rfl, rfl⟩
  go_wp2_with fail
  refine HK.out.mono ?_
  rintro e w1 ⟨rfl, rfl⟩
  go_wp2_with fail
  refine HS.out.mono ?_
  rintro e w1 ⟨A, c, l, rfl, hc, hl, hmem, hown, hb⟩
  have hl2 : l = L.map (·.1) := rising_same hl (List.pairwise_map.2 HUP.out.1) (fun i => (hmem i).trans (HSUP.out i))
  have HB := Lib.hid hb
  subst hl2
  rw [List.length_map] at hown hc ⊢
  have hri := Lib.hid (RI.of_own hown (fun x hx => by
    obtain ⟨y, hy, rfl⟩ := List.mem_map.1 hx
    obtain ⟨a1, a2, _⟩ := HUP.out.2.1 y hy
    have := HUP.out.2.2
    unfold DS.P at a2
    omega)).1
  clear hl hmem hown hb
  go_wp2
  go_ret
  exact ⟨_, _, rfl, hc, hri.out, HB.out⟩

set_option maxHeartbeats 800000 in
theorem pget_any (api : DiskApi D) (h : PgAt D w F O p S q seq r b L) (ht : TabF w F) (i : Int) (hi : -9223372036854775808 ≤ i ∧ i ≤ 9223372036854775807) : Calls Tryz.prog 43 #[.pointer (some ⟨r, 0, none⟩), .int .i64 i] w fun e w' => ∃ A n c, e = .returned (.tuple #[.slice A n c, .int .i64 (getPg S L i).2]) ∧ n ≤ c ∧ RB w' w'.heap.size A n (getPg S L i).1 ∧ Below w.heap.size w w' := by
  obtain ⟨l0, l1, l2⟩ := h.cells
  have HM := Lib.hid (pmade_any h)
  obtain ⟨f, hf, hset⟩ := h.set
  have HLD := Lib.hid (load_any api h.d h.log ht i hi)
  have q1 := hf.look Tryz.underlying114 (zero_slice w) hi
  cases ha : atL L i with
  | none =>
    have hg : getPg S L i = loadS S i := by unfold getPg; rw [ha]
    rw [(hset i).1 ha] at q1
    simp only [Option.getD_none, Option.isSome_none] at q1
    rw [hg]
    clear hg ha hset hf h ht
    go_enter Tryz.func43, Tryz.ntmps43
    go_wp2_with fail
    refine HM.out.mono ?_
    rintro e w1 ⟨rfl, rfl⟩
    go_wp2_with fail
    refine HLD.out.mono ?_
    rintro e w1 ⟨A, n, c, rfl, hc, hr, hb⟩
    have HE := Lib.hid (And.intro hr hb)
    clear hr hb
    go_wp2
    go_ret2
    exact ⟨_, _, _, rfl, hc, HE.out.1, HE.out.2⟩
  | some l =>
    have hg : getPg S L i = (l, 0) := by unfold getPg; rw [ha]
    obtain ⟨g, c, e1, hc, hr, _⟩ := (hset i).2 l ha
    rw [e1] at q1
    simp only [Option.getD_some, Option.isSome_some] at q1
    have HCL := Lib.hid (SClone_any c hr (Nat.le_refl _) (by decide))
    rw [hg]
    clear hg ha hset hf h ht hr e1
    go_enter Tryz.func43, Tryz.ntmps43
    go_wp2_with fail
    refine HM.out.mono ?_
    rintro e w1 ⟨rfl, rfl⟩
    go_wp2_with fail
    refine HCL.out.mono ?_
    rintro e w1 ⟨A, c1, rfl, hc1, hr, hb⟩
    have HE := Lib.hid (And.intro hr hb)
    clear hr hb
    go_wp2
    go_ret2
    exact ⟨_, _, _, rfl, hc1, HE.out.1, HE.out.2⟩

/-- The map was emptied. -/
theorem PgAt.empty (api : DiskApi D) (h : PgAt D w F O p S q seq r b L) (hm : IMap w' b 0 (fun _ => none)) (hg : w.grownBy w' (some b)) : PgAt D w' F O p S q seq r b [] :=
  h.turn api hg (fun k hk => hk) (fun k hk => Nat.lt_of_lt_of_le (h.lt k hk) hg.size) ⟨_, hm, fun i => ⟨fun _ => rfl, fun l hl => by cases hl⟩⟩ List.Pairwise.nil (fun x hx => by cases hx)
theorem touch_grown {X : Nat → Prop} (hg : w.grownBy w' (some b)) (hb : X b) : Touch X w w' := ⟨hg.os, hg.tape, hg.output, hg.size, fun k hk hn => hg.block k hk (fun e => hn (by injection e with e; rw [e]; exact hb))⟩

set_option maxHeartbeats 400000 in
theorem pabort_any (api : DiskApi D) (h : PgAt D w F O p S q seq r b L) : Calls Tryz.prog 30 #[.pointer (some ⟨r, 0, none⟩)] w fun e w' => e = .returned (.tuple #[]) ∧ PgAt D w' F O p S q seq r b [] ∧ w.grownBy w' (some b) := by
  obtain ⟨l0, l1, l2⟩ := h.cells
  have HM := Lib.hid (pmade_any h)
  obtain ⟨f, hf, hset⟩ := h.set
  obtain ⟨w5, hrun5, hm5, hg5⟩ := hf.clear_ Tryz.underlying114 0
  have HE := Lib.hid (And.intro (h.empty api hm5 hg5) hg5)
  clear h hf hset hm5 hg5
  go_enter Tryz.func30, Tryz.ntmps30
  go_wp2_with fail
  refine HM.out.mono ?_
  rintro e w1 ⟨rfl, rfl⟩
  go_wp2
  go_end0
  exact ⟨rfl, HE.out⟩
end

end Go.Proofs.YtfbljmkjiaklfaaGreatDoor
