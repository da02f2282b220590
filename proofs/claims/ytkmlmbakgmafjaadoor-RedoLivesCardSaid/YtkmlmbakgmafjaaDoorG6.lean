/-
  The texts RedoAt, Now, All joined. Conditions: those that each part says at its head.
-/
import Derived.Laws.CopyOwn
import Derived.Deep.RegionLaw
import Derived.Test.YtkmlmbakgmafjaaDoorMRedoWritesW
import Derived.Test.YtkmlmbakgmafjaaDoorG4

/-
  Plain: a crash in the middle of a commit leaves all its pages or none. No program.
-/
namespace Go.Proofs.YtkmlmbakgmafjaaDoor
open Go.RowKit
set_option maxRecDepth 100000
set_option linter.unusedVariables false

section
variable {S : DS} {f g : Nat → List Int} {n seq : Int}

/-- A disk that rests on an image which reads as it does when it is opened. -/
structure Set_ (S : DS) (f : Nat → List Int) (seq : Int) : Prop where
  rests : Rests S f
  opn : opened S.n f = f
  err : (unpackR (f 0)).2.2.2 = 0
  num : (unpackR (f 0)).2.1 = seq

theorem opened_zero (hn : 0 ≤ pagesOf n) (f : Nat → List Int) : opened n f 0 = f 0 := by
  rcases h : listed n f with _ | l
  · rw [opened_none h]
  · rw [opened_some h, putH_far _ _ (fun x hx e => by have := (listed_mem h x hx).1.1; omega)]
theorem Free.fuse_crash (S : DS) (k : List Int) : Free (S.crash k) := ⟨rfl, rfl⟩
theorem Rests.fuse (h : Rests S f) (k : Int) : Rests (S.fuse k) f := ⟨h.safe, h.last, h.up⟩
theorem Set_.fuse (h : Set_ S f seq) (k : Int) : Set_ (S.fuse k) f seq := ⟨h.rests.fuse k, h.opn, h.err, h.num⟩

/-- From a crash on: Open (wherever the disk goes down), a crash, Open. -/
theorem atomic_tail (hn : n = S.n) (hn3 : 3 ≤ n) (hR : Rests S g) (hm : (unpackR (g 0)).2.2.2 = 0) (k : Int) (kept : List Int) :
    (openS ((openS (S.fuse k)).2.2.crash kept)).1 = 0 ∧ (openS ((openS (S.fuse k)).2.2.crash kept)).2.2.n = S.n ∧ Free (openS ((openS (S.fuse k)).2.2.crash kept)).2.2 ∧ Set_ (openS ((openS (S.fuse k)).2.2.crash kept)).2.2 (opened n g) (unpackR (g 0)).2.1 := by
  have hnn := (pagesOf_nn n).1
  obtain ⟨g', h1, h2, h3, h4⟩ := open_leaves (n := n) (S := S.fuse k) hn (hR.fuse k) hm kept
  obtain ⟨o1, o2, o3, o4, o5⟩ := open_free (n := n) (S := (openS (S.fuse k)).2.2.crash kept) (by rw [h4]; exact hn) hn3 (Free.fuse_crash _ _) h1 (by rw [h2]; exact hm)
  refine ⟨o1, o5.trans h4, o4, ?_⟩
  have hz := opened_zero hnn g
  rw [h3] at o3
  refine ⟨o3, ?_, by rw [hz]; exact hm, by rw [hz]⟩
  rw [o5.trans h4, show ((S.fuse k).n : Int) = n from hn.symm]
  exact opened_twice hnn g

/-- All pages of a commit are there, or none. -/
theorem atomic_plain {l : List (Int × List Int)} (hn : n = S.n) (hn3 : 3 ≤ n) (hI : Imgs n seq l) (hS : Set_ S f seq) (keep : List Int) (k : Int) (kept : List Int) :
    ∃ g, (openS ((openS ((((commitS S seq l).2.2).crash keep).fuse k)).2.2.crash kept)).1 = 0 ∧ (openS ((openS ((((commitS S seq l).2.2).crash keep).fuse k)).2.2.crash kept)).2.2.n = S.n ∧ Free (openS ((openS ((((commitS S seq l).2.2).crash keep).fuse k)).2.2.crash kept)).2.2 ∧
      (∃ s, Set_ (openS ((openS ((((commitS S seq l).2.2).crash keep).fuse k)).2.2.crash kept)).2.2 g s) ∧
      (((∀ x ∈ l, pageIn n g x.1 = x.2) ∧ ∀ p, 0 ≤ p → p < pagesOf n → (∀ x ∈ l, x.1 ≠ p) → pageIn n g p = pageIn n f p) ∨ ((commitS S seq l).1 ≠ 0 ∧ ∀ p, 0 ≤ p → p < pagesOf n → pageIn n g p = pageIn n f p)) := by
  have hnn := (pagesOf_nn n).1
  have hop : opened n f = f := by have := hS.opn; rw [← hn] at this; exact this
  by_cases hne : l = []
  · subst hne
    rw [commit_nil]
    obtain ⟨h1, h2⟩ := (hS.rests.both (fun _ _ => False)).crash keep
    have e : (S.crash keep).last = f := by
      funext i
      rcases h1 i with e | e
      · exact e
      · exact e.elim
    rw [e] at h2
    obtain ⟨t1, t2, t3, t4⟩ := atomic_tail (S := S.crash keep) (n := n) hn hn3 h2 hS.err k kept
    rw [hop] at t4
    exact ⟨f, t1, t2, t3, ⟨_, t4⟩, .inl ⟨(fun x hx => by cases hx), fun p _ _ _ => rfl⟩⟩
  · obtain ⟨g1, g2⟩ := commit_leaves hn hI hne hS.rests
    have hn' : n = ((commitS S seq l).2.2.crash keep).n := by show n = ((commitS S seq l).2.2.n : Int); rw [g1]; exact hn
    have hpage : ∀ a b : Nat → List Int, (∀ j : Nat, pagesOf n < j → a j = b j) → ∀ p, 0 ≤ p → p < pagesOf n → pageIn n a p = pageIn n b p := fun a b h p hp _ => by
      unfold pageIn
      rw [h _ (by omega)]
    rcases g2 with ⟨he, hB⟩ | ⟨hB, _⟩
    · obtain ⟨h1, h2⟩ := hB.crash keep
      obtain ⟨v1, v2⟩ := view_slots hI hS.num hop h1
      obtain ⟨t1, t2, t3, t4⟩ := atomic_tail (n := n) hn' hn3 h2 (by rw [v1]; exact hS.err) k kept
      exact ⟨_, t1, t2.trans g1, t3, ⟨_, t4⟩, .inr ⟨he, hpage _ _ v2⟩⟩
    · obtain ⟨h1, h2⟩ := hB.crash keep
      obtain ⟨m1, m2, m3⟩ := view_marked (f := f) hI
      obtain ⟨p1, p2⟩ := opened_part hnn m2 h1
      have hz := homeW_far (fun x hx => (listed_mem m2 x hx).1.1) h1 hnn (j := 0) (by omega)
      obtain ⟨t1, t2, t3, t4⟩ := atomic_tail (n := n) hn' hn3 h2 (by rw [hz, m1]) k kept
      rw [p2, opened_some m2] at t4
      exact ⟨_, t1, t2.trans g1, t3, ⟨_, t4⟩, .inl (pages_marked hI)⟩

/-- The log behind the first commit. -/
theorem first_set {m : Nat} {l : List (Int × List Int)} (hn : (m : Int) = S.n) (hn3 : 3 ≤ (m : Int)) (hI : Imgs m 1 l) (hF : Free S) (hR : Rests S fresh1) :
    (commitS S 1 l).1 = 0 ∧ (commitS S 1 l).2.2.n = S.n ∧ Free (commitS S 1 l).2.2 ∧ (commitS S 1 l).2.2.writes = S.writes + wantW l.length ∧ (1 ≤ (commitS S 1 l).2.1 ∧ (commitS S 1 l).2.1 ≤ 2) ∧ ∃ f, Set_ (commitS S 1 l).2.2 f (commitS S 1 l).2.1 := by
  obtain ⟨a1, a2, a3, a4⟩ := free_commit_all hn hn3 hI hF hR
  have hnn := (pagesOf_nn (m : Int)).1
  refine ⟨a1, a2, a3, a4, ?_⟩
  by_cases hne : l = []
  · subst hne
    rw [commit_nil]
    exact ⟨⟨by show (1 : Int) ≤ 1; omega, by show (1 : Int) ≤ 2; omega⟩, fresh1, hR, by rw [← hn]; exact (fresh1_opened _).2, by rw [fresh1_mark], by rw [fresh1_mark]⟩
  · obtain ⟨h1, h2, h3, h4, h5, h6⟩ := free_commit hn hn3 hI hne hF hR
    refine ⟨by rw [h2]; omega, _, h6, ?_, ?_, ?_⟩
    · rw [h4, ← hn]
      obtain ⟨m1, m2, m3⟩ := view_marked (f := fresh1) hI
      rw [← opened_some m2]
      exact opened_twice hnn _
    · obtain ⟨m1, m2, m3⟩ := view_marked (f := fresh1) hI
      rw [putH_far _ _ (fun x hx e => by have := (hI.mem hx).1.1; omega), m1]
    · obtain ⟨m1, m2, m3⟩ := view_marked (f := fresh1) hI
      rw [putH_far _ _ (fun x hx e => by have := (hI.mem hx).1.1; omega), m1, h2]

theorem homes_more (S : DS) (l : List (Int × List Int)) : (homesS S l).2.writes ≤ S.writes + l.length := by
  rw [← putS_homes]
  have := (putS_more (atHomes S.P l) S).1
  simpa [atHomes] using this
theorem open_more (S : DS) : (openS S).2.2.writes ≤ S.writes + 32767 ∧ (openS S).2.2.n = S.n := by
  unfold openS
  split
  · exact ⟨Nat.le_add_right _ _, rfl⟩
  split
  · exact ⟨Nat.le_add_right _ _, rfl⟩
  split
  · exact ⟨Nat.le_add_right _ _, rfl⟩
  · rename_i l hl
    have h1 := homes_more S l
    have h2 := (slotsOf_pages hl).2
    have h3 := P_homes l S
    split
    · exact ⟨by show (homesS S l).2.writes ≤ _; omega, h3⟩
    · exact ⟨by show (homesS S l).2.writes ≤ _; omega, h3⟩
theorem commit_more {l : List (Int × List Int)} (hn : n = S.n) (hI : Imgs n seq l) : (commitS S seq l).2.2.writes ≤ S.writes + (2 * l.length + 1) ∧ (commitS S seq l).2.2.n = S.n ∧ seq ≤ (commitS S seq l).2.1 ∧ (commitS S seq l).2.1 ≤ seq + 1 := by
  have hP : S.P = pagesOf n := by unfold DS.P; rw [hn]
  have hfew := hI.few
  have h4 := (pagesOf_nn n).2.2
  have h0 := hI.seq0
  have h1 := hI.seq1
  have hright : rightS S l := ⟨fun x hx => by rw [hP]; exact hI.page x hx, hI.once⟩
  have he : rightE S l = 0 := by unfold rightE; rw [if_neg (by rw [hP]; omega), if_pos hright]
  have hsec : secR l.length (seq + 1) = true := decide_eq_true ⟨by omega, by omega, by omega, by omega⟩
  by_cases hne : l = []
  · subst hne
    rw [commit_nil]
    exact ⟨Nat.le_add_right _ _, rfl, Int.le_refl _, by show seq ≤ seq + 1; omega⟩
  rw [commitS_is he hne]
  have p1 := putS_more (atSlots 0 (packs (seq + 1) l)) S
  rw [atSlots_length, packs_length] at p1
  unfold commitP
  split
  · exact ⟨by show (putS S _).2.writes ≤ _; omega, p1.2, Int.le_refl _, by show seq ≤ seq + 1; omega⟩
  generalize (putS S (atSlots 0 (packs (seq + 1) l))).2 = S3 at p1 ⊢
  have p2 := putS_more [(0, secL l.length (seq + 1) zpage)] S3
  rw [mark_put _ hsec] at p2
  have p2' : (markS S3 l.length (seq + 1)).2.writes ≤ S3.writes + 1 := p2.1
  unfold commitM
  split
  · exact ⟨by show (markS S3 _ _).2.writes ≤ _; omega, p2.2.trans p1.2, Int.le_refl _, by show seq ≤ seq + 1; omega⟩
  have p3 := homes_more (markS S3 l.length (seq + 1)).2 (packs (seq + 1) l)
  rw [packs_length] at p3
  exact ⟨by show (homesS _ _).2.writes ≤ _; omega, (P_homes _ _).trans (p2.2.trans p1.2), by show seq ≤ seq + 1; omega, Int.le_refl _⟩
end

end Go.Proofs.YtkmlmbakgmafjaaDoor

/-
  Words for the statement's own list of pages while pages are copied into it. Plain facts; the contract of bytes.Clone with its block. No condition beyond what each says.
-/
namespace Go.Proofs.YtkmlmbakgmafjaaDoor
open Go.RowKit
set_option maxRecDepth 100000
set_option linter.unusedVariables false

/-- The pages of F, k of them, one behind the other. -/
def IsFlat (L : List Int) (F : Nat → List Int) (k : Nat) : Prop := L.length = k * 240 ∧ ∀ p i, p < k → i < 240 → L[p * 240 + i]? = (F p)[i]?
theorem IsFlat.next {L : List Int} {F : Nat → List Int} {k : Nat} (h : IsFlat L F k) (hl : (F k).length = 240) : IsFlat (L ++ F k) F (k + 1) := by
  refine ⟨by rw [List.length_append, h.1, hl]; omega, fun p i hp hi => ?_⟩
  rcases Nat.lt_or_ge p k with h' | h'
  · rw [List.getElem?_append_left (by rw [h.1]; omega)]
    exact h.2 p i h' hi
  · obtain rfl : p = k := by omega
    rw [List.getElem?_append_right (by rw [h.1]; omega), h.1]
    congr 1
    omega
theorem IsFlat.same {L L' : List Int} {F F' : Nat → List Int} {k : Nat} (h : IsFlat L F k) (h' : IsFlat L' F' k) (e : ∀ p, p < k → F p = F' p) : L = L' := by
  apply List.ext_getElem?
  intro j
  rcases Nat.lt_or_ge j (k * 240) with hj | hj
  · have e1 : j = j / 240 * 240 + j % 240 := by omega
    have h1 : j / 240 < k := by omega
    have h2 : j % 240 < 240 := by omega
    rw [e1, h.2 _ _ h1 h2, h'.2 _ _ h1 h2, e _ h1]
  · rw [List.getElem?_eq_none (by rw [h.1]; exact hj), List.getElem?_eq_none (by rw [h'.1]; exact hj)]

/-- Block g holds the bytes L, and other cells behind them. -/
def NowBlk (w : World) (g : Nat) (L : List Int) : Prop := ∃ tl : List Value, w.heap[g]? = some (.cells ((L.map (Value.int .u8)) ++ tl).toArray 5 (0, 0))
theorem NowBlk.of_own {w : World} {base g n c : Nat} {L : List Int} (h : w.ownsRow base 5 1 (.slice (some ⟨g, 0, none⟩) n c) n (L.map (Value.int .u8))) : NowBlk w g L := by
  rcases h.2 with ⟨e, _⟩ | ⟨g', cap, cur, e, _, hb, _, _, _, htake⟩
  · cases e
  · cases e
    refine ⟨cur.toList.drop (n * 1), ?_⟩
    rw [hb, ← htake, List.take_append_drop]
theorem NowBlk.keep {w w' : World} {g : Nat} {L : List Int} (h : NowBlk w g L) (e : w'.heap[g]? = w.heap[g]?) : NowBlk w' g L := by
  obtain ⟨tl, h⟩ := h
  exact ⟨tl, e.trans h⟩
theorem NowBlk.lt {w : World} {g : Nat} {L : List Int} (h : NowBlk w g L) : g < w.heap.size := by
  obtain ⟨tl, h⟩ := h
  exact (Array.getElem?_eq_some_iff.1 h).1
theorem NowBlk.rb {w : World} {g n : Nat} {L : List Int} (h : NowBlk w g L) (hn : L.length = n) (hb : AllBytes L) : RB w w.heap.size (some ⟨g, 0, none⟩) n L := by
  refine ⟨hn, hb, fun h0 => ⟨g, 0, rfl, h.lt, fun j hj => ?_⟩⟩
  obtain ⟨tl, h⟩ := h
  rw [Nat.zero_add, cell_of_row w g j _ _ (0, 0) h, List.getElem?_toArray, List.getElem?_append_left (by simp; omega), List.getElem?_map, List.getElem?_eq_getElem (by omega)]
  rfl
theorem splice_map {L d : List Int} {tl : List Value} {o : Nat} (h : o + d.length ≤ L.length) : splice ((L.map (Value.int .u8)) ++ tl) o (d.map (Value.int .u8)) = ((splice L o d).map (Value.int .u8)) ++ tl := by
  unfold splice
  rw [List.take_append_of_le_length (by simp; omega), List.length_map, List.drop_append_of_le_length (by simp; omega)]
  simp [List.map_take, List.map_drop, List.append_assoc]
theorem splice_bytes {L d : List Int} {o : Nat} (h1 : AllBytes L) (h2 : AllBytes d) : AllBytes (splice L o d) := fun x hx => by
  unfold splice at hx
  rcases List.mem_append.1 hx with a | a
  · exact h1 x (List.mem_of_mem_take a)
  · rcases List.mem_append.1 a with a | a
    · exact h2 x a
    · exact h1 x (List.mem_of_mem_drop a)
/-- Some blocks hold lists of bytes, apart from the blocks F. -/
def Held (w : World) (F : Nat → Prop) (gs : List (Nat × List Int)) : Prop := ∀ x ∈ gs, NowBlk w x.1 x.2 ∧ ¬ F x.1
theorem Held.touch {w w' : World} {F F' : Nat → Prop} {gs : List (Nat × List Int)} (h : Held w F gs) (ht : Touch F w w') (hF : ∀ k, F' k → F k ∨ w.heap.size ≤ k) : Held w' F' gs := fun x hx => by
  obtain ⟨h1, h2⟩ := h x hx
  refine ⟨h1.keep (ht.block _ h1.lt h2), fun hf => ?_⟩
  rcases hF _ hf with a | a
  · exact h2 a
  · have := h1.lt; omega
theorem Held.below {w w' : World} {F : Nat → Prop} {gs : List (Nat × List Int)} (h : Held w F gs) (hb : Below w.heap.size w w') : Held w' F gs := fun x hx => ⟨(h x hx).1.keep (hb.block _ (h x hx).1.lt), (h x hx).2⟩
theorem Held.weaken {w : World} {F F' : Nat → Prop} {gs : List (Nat × List Int)} (h : Held w F gs) (hF : ∀ k, F' k → F k) : Held w F' gs := fun x hx => ⟨(h x hx).1, fun hf => (h x hx).2 (hF _ hf)⟩
theorem Touch.weaken {w w' : World} {F X : Nat → Prop} (h : Touch F w w') (hF : ∀ k, F k → X k) : Touch X w w' := ⟨h.os, h.tape, h.output, h.size, fun k hk hn => h.block k hk (fun hf => hn (hF k hf))⟩
theorem orAt_new {w : World} {F F' : Nat → Prop} {q : Nat} (h : ∀ k, F' k → F k ∨ w.heap.size ≤ k) : ∀ k, orAt F' q k → orAt F q k ∨ w.heap.size ≤ k := fun k hk => by
  rcases hk with a | a
  · rcases h k a with b | b
    · exact .inl (.inl b)
    · exact .inr b
  · exact .inl (.inr a)
/-- One page is another. -/
def setP (F : Nat → List Int) (y : Int × List Int) : Nat → List Int := fun q => if q = y.1.toNat then y.2 else F q
theorem IsFlat.set {L : List Int} {F : Nat → List Int} {k : Nat} (h : IsFlat L F k) {y : Int × List Int} (hp : 0 ≤ y.1 ∧ y.1 < k) (hl : y.2.length = 240) : IsFlat (splice L (y.1.toNat * 240) y.2) (setP F y) k := by
  have hk : y.1.toNat < k := by omega
  have hfit : y.1.toNat * 240 + y.2.length ≤ L.length := by rw [h.1, hl]; omega
  refine ⟨by rw [length_splice _ _ _ hfit]; exact h.1, fun p i hpk hi => ?_⟩
  have hL := h.1
  unfold splice setP
  by_cases e : p = y.1.toNat
  · subst e
    rw [if_pos rfl, List.getElem?_append_right (by rw [List.length_take]; omega), List.length_take, Nat.min_eq_left (by omega), List.getElem?_append_left (by omega)]
    congr 1
    omega
  · rw [if_neg e]
    rcases Nat.lt_or_ge p y.1.toNat with h' | h'
    · rw [List.getElem?_append_left (by rw [List.length_take]; omega), List.getElem?_take, if_pos (by omega)]
      exact h.2 p i hpk hi
    · rw [List.getElem?_append_right (by rw [List.length_take]; omega), List.length_take, Nat.min_eq_left (by omega), List.getElem?_append_right (by omega), List.getElem?_drop]
      rw [show y.1.toNat * 240 + y.2.length + (p * 240 + i - y.1.toNat * 240 - y.2.length) = p * 240 + i by omega]
      exact h.2 p i hpk hi
/-- Some pages are others. -/
def setAll (F : Nat → List Int) (l : List (Int × List Int)) : Nat → List Int := l.foldl setP F
theorem setAll_spec (l : List (Int × List Int)) : ∀ F : Nat → List Int, (l.map (·.1)).Nodup → (∀ x ∈ l, 0 ≤ x.1) → (∀ x ∈ l, setAll F l x.1.toNat = x.2) ∧ ∀ q : Nat, (∀ x ∈ l, x.1 ≠ (q : Int)) → setAll F l q = F q := by
  induction l with
  | nil => intro F _ _; exact ⟨(fun x hx => by cases hx), fun q _ => rfl⟩
  | cons y r ih =>
    intro F hnd h0
    rw [List.map_cons, List.nodup_cons] at hnd
    obtain ⟨i1, i2⟩ := ih (setP F y) hnd.2 (fun x hx => h0 x (List.mem_cons_of_mem _ hx))
    have hy0 := h0 y (List.mem_cons_self ..)
    refine ⟨fun x hx => ?_, fun q hq => ?_⟩
    · rcases List.mem_cons.1 hx with rfl | hx
      · show setAll (setP F x) r x.1.toNat = x.2
        rw [i2 x.1.toNat (fun z hz e => hnd.1 (List.mem_map.2 ⟨z, hz, by omega⟩))]
        unfold setP
        rw [if_pos rfl]
      · exact i1 x hx
    · show setAll (setP F y) r q = F q
      rw [i2 q (fun z hz => hq z (List.mem_cons_of_mem _ hz))]
      unfold setP
      rw [if_neg (fun e => hq y (List.mem_cons_self ..) (by omega))]

/-- copy into a row, as one step of a region that draws its order: that block alone is written. -/
theorem step_copy_at {P : Program} {ops : Array Oper} {o : Oper} {a : Act} {w : World} {K : Act → World → Prop} {Q : Exit → Act → World → Prop} {E : Prop} (hgd : o.guard = none) (d s : Operand) (dT sT : TypeId)
    (ho : o.op = .call { callee := .builtin .copy, args := #[d, s], argTypes := #[dT, sT] }) (elem : TypeId) (hu : P.underlying dT = some (.slice elem)) (hsz : (P.info? elem).map (·.size) = some 1)
    (dp : Option Addr) (ad : Addr) (dLen dCap sLen sCap : Nat) (hd : a.eval d = .slice dp dLen dCap) (hs : a.eval s = .slice (some ad) sLen sCap)
    (g off : Nat) (hdp : dp = some ⟨g, off, none⟩) (cur : List Value) (t : TypeId) (hg : w.heap[g]? = some (.cells cur.toArray t (0, 0))) (cs : List Value) (hn : cs.length = Nat.min sLen dLen)
    (hsrc : ∀ j v, cs[j]? = some v → w.cell? (ad.add j) = some v)
    (hfit : off + cs.length ≤ cur.length) (h1 : ∀ v ∈ cs, v.oneCell' = true)
    (h : ∀ w', Hid (w'.heap[g]? = some (.cells (splice cur off cs).toArray t (0, 0))) → Hid (Touch (fun j => j = g) w w') → K (a.put o.dst (goInt cs.length)) w') :
    if Region.wanted o (yielded ops a.tmps) = true then Oper.wp P o a w K Q else E := by
  have hw : Region.wanted o (yielded ops a.tmps) = true := by simp [Region.wanted, hgd]
  rw [if_pos hw]
  subst hdp
  have hrun := run_copy_row (P := P) w dT sT o.type elem g off dLen dCap ad sLen sCap cur.toArray t cs hu hsz hg hn hsrc (by simpa using hfit) h1
  unfold Oper.wp
  simp [execOp, ho, resolve, invoke, builtin, hd, hs, hrun, Result.andThen]
  exact h _ (show _ = _ by simpa [splice] using setRow_heap w g _ _ t _ hg) (Lib.hid ⟨rfl, rfl, rfl, by simp [World.setRow], fun k hk hne => setRow_other w g k _ (fun e => hne e)⟩)

set_option maxHeartbeats 400000 in
theorem CloneN_own {w : World} {B n : Nat} {ad : Addr} {l : List Int} (c : Nat) (h : RB w B (some ad) n l) (hB : B ≤ w.heap.size) (hn0 : 0 < n) (hn : n ≤ 140737488355328) :
    Calls Tryd.prog 32 #[.slice (some ad) n c] w fun e w' => ∃ g c', e = .returned (.slice (some ⟨g, 0, none⟩) n c') ∧ n ≤ c' ∧ w.heap.size ≤ g ∧ NowBlk w' g l ∧ Below w.heap.size w w' := by
  have q22 : ∀ (w : World) (a : Option Addr) (n c n' c' : Nat), (binOp .eql 51 (.slice a n c) (.slice none n' c')).run Tryd.prog w = .ok (.bool a.isNone) w := fun w a n c n' c' => Lib.run_eql_slice_nil w _ _ a n c n' c' Tryd.underlying51
  go_enter Tryd.func32, Tryd.ntmps32
  go_wp2_with (at_builtin; refine wpList_append_bytes rfl _ _ rfl w.heap.size _ 0 [] rfl (World.ownsRow_made w #[] 0 (Nat.le_refl _) (Nat.zero_le _) rfl) B (some ad) n c l rfl (h.alloc hB _) (by omega) (by simp) ?_; intro v1 w1 hown1 _ hb1)
  simp only [Nat.zero_add, List.nil_append] at hown1
  obtain ⟨g, c', rfl, hc', hg⟩ := own_some hown1 hn0
  go_ret
  exact ⟨g, c', rfl, hc', hg, NowBlk.of_own hown1, ((Below.refl w.heap.size w).alloc (Nat.le_refl _) _).trans hb1⟩

end Go.Proofs.YtkmlmbakgmafjaaDoor

/-
  Contract of the statement package's own list of all pages of a log. Nothing that was there is written. Conditions: from 1 to 100 pages, each of which is answered.
-/
namespace Go.Proofs.YtkmlmbakgmafjaaDoor
open Go.RowKit
set_option maxRecDepth 100000
set_option linter.unusedVariables false

section
variable {D : World → (Nat → Prop) → Addr → DS → Prop} {w0 w : World} {F : Nat → Prop} {p : Addr} {S : DS} {q : Nat} {seq : Int}

set_option maxHeartbeats 4000000 in
theorem all_any (api : DiskApi D) (h : LawL D w0 w F p S q seq) {P : Nat} {G : Nat → List Int} (hP : pagesOf S.n = (P : Int)) (hP0 : 0 < P) (hPs : P ≤ 100) (hl : ∀ k : Nat, k < P → loadS S (k : Int) = (G k, 0)) (hlen : ∀ k : Nat, k < P → (G k).length = 240) :
    Calls Tryd.prog 31 #[.pointer (some ⟨q, 0, none⟩)] w fun e w' => ∃ g c L, e = .returned (.tuple #[.slice (some ⟨g, 0, none⟩) (P * 240) c, .bool true]) ∧ P * 240 ≤ c ∧ w.heap.size ≤ g ∧ NowBlk w' g L ∧ AllBytes L ∧ IsFlat L G P ∧ Below w.heap.size w w' := by
  have HP := Lib.hid (law_pages api h)
  rw [hP] at HP
  have HL := Lib.hid (fun w1 (hb : Below w.heap.size w w1) (k : Nat) (hk : k < P) => law_load api (h.later api hb) (k : Int) (by omega))
  clear h
  go_enter Tryd.func31, Tryd.ntmps31
  go_wp2_with fail
  refine HP.out.mono ?_
  rintro e w1 ⟨rfl, hw1⟩
  have hw1 := hw1.symm
  subst hw1
  go_wp2
  go_loopw [4, 10] (fun ov i wr => ∃ (k : Nat) (L : List Int), k ≤ P ∧ i = .int .i64 k ∧ Hid (wr.ownsRow w.heap.size 5 1 ov (k * 240) (L.map (Value.int .u8))) ∧ Hid (IsFlat L G k ∧ AllBytes L) ∧ Hid (Below w.heap.size w wr)) (fun _ i _ => P - (intOf i).toNat)
  case atStart => exact ⟨0, [], Nat.zero_le _, rfl, Lib.hid ⟨rfl, .inl ⟨rfl, rfl⟩⟩, Lib.hid ⟨⟨rfl, fun p i hp => absurd hp (by omega)⟩, fun x hx => by cases hx⟩, Lib.hid (Below.refl _ _)⟩
  case round =>
    obtain ⟨k, L, hk, rfl, hown, hfl, hbw⟩ := hrel
    by_cases hlt2 : k < P
    · have hlt' : (k : Int) < (P : Int) := by omega
      have HLK := Lib.hid (HL.out wr hbw.out k hlt2)
      rw [hl k hlt2] at HLK
      have hlk := hlen k hlt2
      have HFN := Lib.hid (hfl.out.1.next hlk)
      have hown' := hown.out
      obtain ⟨A0, c0, rfl, hc0⟩ := own_shape hown'
      clear hown'
      go_wp2_with fail
      refine HLK.out.mono ?_
      rintro e w2 ⟨A2, n2, c2, rfl, hc2, hr2, _, hb2⟩
      have hn2 : n2 = 240 := by rw [← hr2.len]; exact hlk
      subst hn2
      have hown2 := own_stays hown.out (fun r hr => hb2.block r (own_at hown.out r hr).2)
      have hbs := hbw.out.size
      have hb2s := hb2.size
      have HB02 := Lib.hid (hbw.out.trans (hb2.mono hbw.out.size))
      have HRB := Lib.hid hr2.bytes
      clear hb2 HLK
      go_wp2_with (at_builtin; refine wpList_append_bytes rfl _ _ rfl w.heap.size _ (k * 240) L rfl hown2 w2.heap.size A2 240 c2 (G k) rfl hr2 (by omega) (by omega) ?_; intro v4 w4 hown4 _ hb4; have HO4 := Lib.hid (And.intro hown4 hb4); clear hown4 hb4 hown2 hr2)
      have hown4 := Lib.hid (show w4.ownsRow w.heap.size 5 1 v4 ((k + 1) * 240) ((L ++ G k).map (Value.int .u8)) from by rw [show (k + 1) * 240 = k * 240 + 240 by omega]; exact HO4.out.1)
      have HB4 := Lib.hid (HB02.out.trans HO4.out.2)
      have HFL4 := Lib.hid (And.intro HFN.out (show AllBytes (L ++ G k) from fun x hx => by
        rcases List.mem_append.1 hx with a | a
        · exact hfl.out.2 x a
        · exact HRB.out x a))
      clear HO4
      go_roundw
      case rel => exact ⟨k + 1, L ++ G k, by omega, by go_num, hown4, HFL4, HB4⟩
      case measure => simp [intOf]; omega
    · obtain rfl : k = P := by omega
      have hown' := hown.out
      obtain ⟨g0, c0, rfl, hc0, hg0⟩ := own_some hown' (by omega)
      have HF := Lib.hid (And.intro hc0 (And.intro hg0 (And.intro (NowBlk.of_own hown') (And.intro hfl.out.2 (And.intro hfl.out.1 hbw.out)))))
      clear hc0 hg0 hown'
      go_wp2
      go_ret2
      exact ⟨g0, c0, L, rfl, HF.out⟩
end

end Go.Proofs.YtkmlmbakgmafjaaDoor
