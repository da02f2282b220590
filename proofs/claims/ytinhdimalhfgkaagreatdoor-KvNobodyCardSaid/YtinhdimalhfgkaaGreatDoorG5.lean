/-
  The texts RedoD, LayRef, RefDiskP, RefDiskF, RefDiskG joined. Conditions: those that each part says at its head.
-/
import Derived.Test.YtinhdimalhfgkaaGreatDoorG4
import Derived.Test.YtinhdimalhfgkaaGreatDoorG2
import Derived.Test.YtinhdimalhfgkaaGreatDoorG3
import Derived.IntWalk
import Derived.Deep.OwnRows
import Derived.Laws.CopyOwn
import Derived.Deep.RegionLaw
import Derived.Deep.AppendLies
import Derived.BigRegion
import Derived.Deep.RegionHeld3

/-
  Plain: what a commit leaves, wherever the disk goes down in it; what Open makes of it. No program.
-/
namespace Go.Proofs.YtinhdimalhfgkaaGreatDoor
open Go.RowKit
set_option maxRecDepth 100000
set_option linter.unusedVariables false

section
variable {S : DS} {f g : Nat → List Int} {n seq : Int}

/-- The slots of a list. -/
def SlotW (l : List (Int × List Int)) (i : Nat) (b : List Int) : Prop := ∃ k x, l[k]? = some x ∧ i = k + 1 ∧ b = x.2

/-- Images as a commit takes them. -/
structure Imgs (n seq : Int) (l : List (Int × List Int)) : Prop where
  page : ∀ x ∈ l, 0 ≤ x.1 ∧ x.1 < pagesOf n ∧ x.2.length = 240
  bytes : ∀ x ∈ l, AllBytes x.2
  once : (l.map (·.1)).Nodup
  few : (l.length : Int) ≤ pagesOf n
  seq0 : 0 ≤ seq
  seq1 : seq < 4611686018427387904

theorem Imgs.pack {l : List (Int × List Int)} (h : Imgs n seq l) {x : Int × List Int} (hx : x ∈ l) : (packR x.1 (seq + 1) x.2).1 = secL x.1 (seq + 1) x.2 ∧ unpackR (secL x.1 (seq + 1) x.2) = (x.1, seq + 1, x.2, 0) ∧ (secL x.1 (seq + 1) x.2).length = 256 := by
  obtain ⟨h1, h2, h3⟩ := h.page x hx
  have h4 := (pagesOf_nn n).2.2
  have h5 := h.seq0
  have h6 := h.seq1
  have hr : secR x.1 (seq + 1) = true := decide_eq_true ⟨h1, by omega, by omega, by omega⟩
  refine ⟨by unfold packR; rw [if_pos ⟨hr, h3⟩], unpack_pack (h.bytes x hx) hr h3, by rw [secL_length, h3]⟩
theorem Imgs.at_ {l : List (Int × List Int)} (h : Imgs n seq l) {k : Nat} {y : Int × List Int} (hy : (packs (seq + 1) l)[k]? = some y) : ∃ x, l[k]? = some x ∧ y = (x.1, secL x.1 (seq + 1) x.2) ∧ unpackR y.2 = (x.1, seq + 1, x.2, 0) ∧ y.2.length = 256 ∧ 0 ≤ x.1 ∧ x.1 < pagesOf n := by
  unfold packs at hy
  rw [List.getElem?_map] at hy
  rcases hx : l[k]? with _ | x
  · rw [hx] at hy; cases hy
  · rw [hx] at hy
    have hm := List.mem_of_getElem? hx
    obtain ⟨h1, h2, h3⟩ := h.pack hm
    obtain rfl : (x.1, (packR x.1 (seq + 1) x.2).1) = y := by simpa using hy
    obtain ⟨h4, h5, _⟩ := h.page x hm
    exact ⟨x, rfl, by rw [h1], by rw [h1]; exact h2, by rw [h1]; exact h3, h4, h5⟩
theorem Imgs.mem {l : List (Int × List Int)} (h : Imgs n seq l) {y : Int × List Int} (hy : y ∈ packs (seq + 1) l) : (0 ≤ y.1 ∧ y.1 < pagesOf n) ∧ y.2.length = 256 := by
  obtain ⟨k, hk, e⟩ := List.getElem_of_mem hy
  obtain ⟨x, _, h2, _, h4, h5, h6⟩ := h.at_ (k := k) (by rw [List.getElem?_eq_getElem hk, e])
  rw [h2] at h4 ⊢
  exact ⟨⟨h5, h6⟩, h4⟩

/-- The image with all slots and the mark of a commit. -/
def marked (f : Nat → List Int) (seq : Int) (l : List (Int × List Int)) : Nat → List Int := putF (putSl f 0 (packs (seq + 1) l)) 0 (secL l.length (seq + 1) zpage)

theorem packs_length (seq : Int) (l : List (Int × List Int)) : (packs seq l).length = l.length := by simp [packs]

/-- Slots that are overwritten do not change what is read. -/
theorem view_slots {l : List (Int × List Int)} (h : Imgs n seq l) (hs : (unpackR (f 0)).2.1 = seq) (hset : opened n f = f) (hw : Within f (SlotW (packs (seq + 1) l)) g) : g 0 = f 0 ∧ ∀ j : Nat, pagesOf n < j → opened n g j = f j := by
  have hfew := h.few
  have far : ∀ j : Nat, pagesOf n < j → g j = f j := fun j hj => by
    rcases hw j with e | ⟨k, x, hx, e, _⟩
    · exact e
    · have := (List.getElem?_eq_some_iff.1 hx).1
      rw [packs_length] at this
      omega
  have e0 : g 0 = f 0 := by
    rcases hw 0 with e | ⟨k, x, hx, e, _⟩
    · exact e
    · omega
  refine ⟨e0, fun j hj => ?_⟩
  rcases hl : listed n g with _ | ls
  · rw [opened_none hl]
    exact far j hj
  · have hf : listed n f = some ls := by
      obtain ⟨h1, h2⟩ := slotsOf_some hl
      rw [e0] at h1 h2
      obtain ⟨h3, h4⟩ := slotsUp_mem _ h2
      refine slotsOf_of h1 (slotsUp_of _ h3 fun i x hx => ?_)
      have hi := h4 i x hx
      rcases hw (i + 1) with e | ⟨k, y, hy, e, e2⟩
      · rw [← slotIn_same e]; exact hi
      · obtain ⟨_, h6, _⟩ := slotIn_some hi
        obtain ⟨z, _, _, h7, _⟩ := h.at_ hy
        rw [e2, h7, hs] at h6
        exact absurd h6 (by show ¬ (seq + 1 = seq); omega)
    rw [opened_some hl]
    have : putH n f ls j = f j := by rw [← opened_some hf, hset]
    rw [← this]
    exact putH_same ls j (.inr (far j hj))

/-- A mark that is there with all its slots: what is read is what was committed. -/
theorem view_marked {l : List (Int × List Int)} (h : Imgs n seq l) : unpackR (marked f seq l 0) = ((l.length : Int), seq + 1, zpage, 0) ∧ listed n (marked f seq l) = some (packs (seq + 1) l) ∧ ∀ j : Nat, pagesOf n < j → marked f seq l j = f j := by
  have hfew := h.few
  have h4 := (pagesOf_nn n).2.2
  have h5 := h.seq0
  have h6 := h.seq1
  have hr : secR l.length (seq + 1) = true := decide_eq_true ⟨by omega, by omega, by omega, by omega⟩
  have e0 : unpackR (marked f seq l 0) = ((l.length : Int), seq + 1, zpage, 0) := by
    unfold marked putF
    rw [if_pos rfl]
    exact unpack_pack zpage_ok.2 hr zpage_ok.1
  refine ⟨e0, ?_, fun j hj => ?_⟩
  · unfold listed
    rw [e0]
    refine slotsOf_of hfew (slotsUp_of _ (by rw [packs_length]; simp) fun i y hy => ?_)
    obtain ⟨x, _, h8, h9, _, h10, h11⟩ := h.at_ hy
    have e1 : marked f seq l (i + 1) = y.2 := by
      unfold marked putF
      rw [if_neg (by omega)]
      have := putSl_at (packs (seq + 1) l) f 0 i y hy
      rwa [Nat.zero_add] at this
    unfold slotIn
    rw [e1, h9, if_pos ⟨rfl, rfl, h11⟩, h8]
  · unfold marked putF
    rw [if_neg (by omega), putSl_far _ _ _ _ (.inr (by rw [packs_length]; omega))]

theorem P_write (S : DS) (i : Int) (l : List Int) : (S.write i l).n = S.n := by
  unfold DS.write
  split
  · rfl
  split
  · rfl
  split <;> rfl
theorem P_flush (S : DS) : S.flush.n = S.n := by
  unfold DS.flush
  split <;> rfl
theorem P_homes (l : List (Int × List Int)) : ∀ S : DS, (homesS S l).2.n = S.n := by
  induction l with
  | nil => exact fun S => P_flush S
  | cons x r ih =>
    obtain ⟨p, b⟩ := x
    intro S
    unfold homesS thenS
    split
    · rw [ih]; exact P_write S _ _
    · exact P_write S _ _
theorem P_slots (l : List (Int × List Int)) : ∀ (S : DS) (i : Int), (slotsS S i l).2.n = S.n := by
  induction l with
  | nil => exact fun S i => rfl
  | cons x r ih =>
    obtain ⟨p, b⟩ := x
    intro S i
    unfold slotsS thenS
    split
    · rw [ih]; exact P_write S _ _
    · exact P_write S _ _

/-- What a commit leaves: slots alone, or the mark with all slots and some homes. -/
theorem commit_leaves {l : List (Int × List Int)} (hn : n = S.n) (h : Imgs n seq l) (hne : l ≠ []) (hR : Rests S f) :
    (commitS S seq l).2.2.n = S.n ∧ (((commitS S seq l).1 ≠ 0 ∧ Both f (SlotW (packs (seq + 1) l)) (commitS S seq l).2.2) ∨ (Both (marked f seq l) (HomeW n (packs (seq + 1) l)) (commitS S seq l).2.2 ∧ ((commitS S seq l).1 = 0 → Rests (commitS S seq l).2.2 (putH n (marked f seq l) (packs (seq + 1) l))))) := by
  have hP : S.P = pagesOf n := by unfold DS.P; rw [hn]
  have hright : rightS S l := ⟨fun x hx => by rw [hP]; exact h.page x hx, h.once⟩
  unfold commitS
  rw [if_neg (by have := h.few; omega), if_neg (fun h' => h' hright), if_neg hne]
  simp only []
  have hB : Both f (SlotW (packs (seq + 1) l)) (slotsS S 0 (packs (seq + 1) l)).2 := Both.slots _ 0 (hR.both _) fun k x hx => ⟨k, x, hx, by omega, rfl⟩
  have hn1 := P_slots (packs (seq + 1) l) S 0
  have hsd := slots_done (packs (seq + 1) l) (S := S) 0 hR.up
  generalize hA : slotsS S 0 (packs (seq + 1) l) = A at hB hn1
  rw [show slotsS S ((0 : Nat) : Int) (packs (seq + 1) l) = A from hA] at hsd
  by_cases h0' : ¬ A.1 = 0
  · have h0 := h0'
    have e : thenS A DS.fl = A := by unfold thenS; rw [if_neg h0]
    rw [e, if_pos h0]
    exact ⟨hn1, .inl ⟨h0, hB⟩⟩
  have h0 : A.1 = 0 := Classical.not_not.1 h0'
  obtain ⟨e1, _, e2⟩ := hsd h0
  have e : thenS A DS.fl = (A.2.flushE, A.2.flush) := by unfold thenS; rw [if_pos h0]; rfl
  rw [e]
  have hf0 : A.2.flushE = 0 := by unfold DS.flushE; rw [if_neg (by simp [e2])]
  obtain ⟨_, e3⟩ := flush_done hf0
  rw [if_neg (fun h' => h' hf0)]
  have hB2 : Both f (SlotW (packs (seq + 1) l)) A.2.flush := hB.flush
  have hn2 : A.2.flush.n = S.n := (P_flush _).trans hn1
  have hl2 : A.2.flush.last = putSl f 0 (packs (seq + 1) l) := by rw [e3]; show A.2.last = _; rw [e1, hR.last]
  have hu2 : A.2.flush.down = false := by rw [e3]; exact e2
  generalize A.2.flush = S2 at hB2 hn2 hl2 hu2
  have hfew := h.few
  have h4 := (pagesOf_nn n).2.2
  have h5 := h.seq0
  have h6 := h.seq1
  have hr : secR l.length (seq + 1) = true := decide_eq_true ⟨by omega, by omega, by omega, by omega⟩
  have hpk : (packR l.length (seq + 1) zpage).1 = secL l.length (seq + 1) zpage := by unfold packR; rw [if_pos ⟨hr, zpage_ok.1⟩]
  have hmk : markS S2 l.length (seq + 1) = thenS (S2.wr 0 (secL l.length (seq + 1) zpage)) DS.fl := by unfold markS; rw [hpk]
  rw [hmk]
  by_cases hm0' : ¬ (S2.wr 0 (secL l.length (seq + 1) zpage)).1 = 0
  · have hm0 := hm0'
    have e : thenS (S2.wr 0 (secL l.length (seq + 1) zpage)) DS.fl = S2.wr 0 (secL l.length (seq + 1) zpage) := by unfold thenS; rw [if_neg hm0]
    rw [e, if_pos hm0]
    refine ⟨(P_write S2 _ _).trans hn2, .inl ⟨hm0, ?_⟩⟩
    have hE : S2.writeE 0 (secL l.length (seq + 1) zpage) ≠ 0 := hm0
    show Both f _ (S2.write 0 (secL l.length (seq + 1) zpage))
    unfold DS.write
    split
    · exact hB2
    rename_i g1
    split
    · exact hB2
    rename_i g2
    split
    · exact hB2
    rename_i g3
    unfold DS.writeE at hE
    rw [if_neg g1, if_neg g2, if_neg g3] at hE
    exact absurd rfl hE
  have hm0 : (S2.wr 0 (secL l.length (seq + 1) zpage)).1 = 0 := Classical.not_not.1 hm0'
  obtain ⟨_, e4⟩ := write_done (S := S2) (i := 0) (l := secL l.length (seq + 1) zpage) hm0
  have e5 : (S2.wr 0 (secL l.length (seq + 1) zpage)).2 = S2.put 0 (secL l.length (seq + 1) zpage) := e4
  have e : thenS (S2.wr 0 (secL l.length (seq + 1) zpage)) DS.fl = (S2.put 0 (secL l.length (seq + 1) zpage)).fl := by unfold thenS; rw [if_pos hm0, e5]
  rw [e]
  have hu3 : (S2.put 0 (secL l.length (seq + 1) zpage)).down = false := hu2
  have hf3 : (S2.put 0 (secL l.length (seq + 1) zpage)).flushE = 0 := by unfold DS.flushE; rw [if_neg (by simp [hu3])]
  obtain ⟨_, e6⟩ := flush_done hf3
  have hl3 : (S2.put 0 (secL l.length (seq + 1) zpage)).last = marked f seq l := by
    show putF S2.last 0 _ = _
    rw [hl2]
    rfl
  rw [if_neg (fun h' => h' hf3)]
  have e7 : (S2.put 0 (secL l.length (seq + 1) zpage)).fl.2 = (S2.put 0 (secL l.length (seq + 1) zpage)).flush := rfl
  rw [e7]
  have hR4 : Rests (S2.put 0 (secL l.length (seq + 1) zpage)).flush (marked f seq l) := by
    rw [e6]
    exact ⟨hl3, hl3, hu3⟩
  have hn4 : (S2.put 0 (secL l.length (seq + 1) zpage)).flush.n = S.n := (P_flush _).trans hn2
  generalize (S2.put 0 (secL l.length (seq + 1) zpage)).flush = S4 at hR4 hn4
  have hP4 : S4.P = pagesOf n := by unfold DS.P; rw [hn4, hn]
  refine ⟨(P_homes _ _).trans hn4, .inr ⟨Both.homes _ (hR4.both _) fun x hx => ⟨x, hx, by rw [hP4], rfl⟩, fun hz => ?_⟩⟩
  obtain ⟨h8, _⟩ := homes_done (packs (seq + 1) l) hz
  rw [hn4, hR4.last, ← hn] at h8
  exact h8

/-- What Open leaves, wherever the disk goes down in it. -/
theorem open_leaves (hn : n = S.n) (hR : Rests S g) (hm : (unpackR (g 0)).2.2.2 = 0) (kept : List Int) : ∃ g', Rests ((openS S).2.2.crash kept) g' ∧ g' 0 = g 0 ∧ opened n g' = opened n g ∧ ((openS S).2.2.crash kept).n = S.n := by
  have hl : S.last = g := hR.last
  have hnn := (pagesOf_nn n).1
  unfold openS
  rw [if_neg (by simp [hR.up]), hl, if_neg (fun h' => h' hm), ← hn]
  rcases h : listed n g with _ | l
  · rw [show slotsOf n g (unpackR (g 0)).1 (unpackR (g 0)).2.1 = none from h]
    obtain ⟨h1, h2⟩ := (hR.both (fun _ _ => False)).crash kept
    have e : (S.crash kept).last = g := by
      funext i
      rcases h1 i with e | e
      · exact e
      · exact e.elim
    rw [e] at h2
    exact ⟨g, h2, rfl, rfl, rfl⟩
  · rw [show slotsOf n g (unpackR (g 0)).1 (unpackR (g 0)).2.1 = some l from h]
    have hP : S.P = pagesOf n := by unfold DS.P; rw [hn]
    have hB : Both g (HomeW n l) (homesS S l).2 := Both.homes l (hR.both _) fun x hx => ⟨x, hx, by rw [hP], rfl⟩
    obtain ⟨h1, h2⟩ := hB.crash kept
    have h3 : ((homesS S l).2.crash kept).n = S.n := P_homes l S
    have h4 : ((homesS S l).2.crash kept).last 0 = g 0 := homeW_far (fun x hx => (listed_mem h x hx).1.1) h1 hnn (by omega)
    have h5 := (opened_part hnn h h1).2
    simp only []
    split
    · exact ⟨_, h2, h4, h5, h3⟩
    · exact ⟨_, h2, h4, h5, h3⟩

/-- What Open leaves where the disk stays up. -/
theorem open_free (hn : n = S.n) (hok : 3 ≤ n) (hF : Free S) (hR : Rests S g) (hm : (unpackR (g 0)).2.2.2 = 0) : (openS S).1 = 0 ∧ (openS S).2.1 = (unpackR (g 0)).2.1 ∧ Rests (openS S).2.2 (opened n g) ∧ Free (openS S).2.2 ∧ (openS S).2.2.n = S.n := by
  have hl : S.last = g := hR.last
  have hnn := pagesOf_nn n
  unfold openS
  rw [if_neg (by simp [hR.up]), hl, if_neg (fun h' => h' hm), ← hn]
  rcases h : listed n g with _ | l
  · rw [show slotsOf n g (unpackR (g 0)).1 (unpackR (g 0)).2.1 = none from h, opened_none h]
    exact ⟨rfl, rfl, hR, hF, rfl⟩
  · rw [show slotsOf n g (unpackR (g 0)).1 (unpackR (g 0)).2.1 = some l from h, opened_some h]
    have hP : S.P = pagesOf n := by unfold DS.P; rw [hn]
    obtain ⟨h1, h2⟩ := hF.homes l fun x hx => by
      obtain ⟨⟨a, b⟩, c⟩ := listed_mem h x hx
      have := hnn.2.1 hok
      exact ⟨⟨by rw [hP]; omega, by rw [hP, ← hn]; omega⟩, c⟩
    obtain ⟨h3, h4⟩ := homes_done l h1
    simp only []
    rw [if_neg (fun h' => h' h1)]
    rw [← hn, hl] at h3
    exact ⟨rfl, rfl, h3, h2, h4⟩
theorem load_rests (hn : n = S.n) (hR : Rests S g) {p : Int} (hp : 0 ≤ p ∧ p < pagesOf n) : loadS S p = (pageIn n g p, 0) := by
  have hP : S.P = pagesOf n := by unfold DS.P; rw [hn]
  unfold loadS pageIn
  rw [hP, hR.last, if_neg (by omega), if_neg (by simp [hR.up])]
  split <;> rfl
end

end Go.Proofs.YtinhdimalhfgkaaGreatDoor

/-
  Contracts of the plain answers of layout: for any numbers they answer how many pages there are and where they stand; nothing is written. No condition.
-/
namespace Go.Proofs.YtinhdimalhfgkaaGreatDoor
open Go.RowKit
set_option maxRecDepth 100000
set_option linter.unusedVariables false

end Go.Proofs.YtinhdimalhfgkaaGreatDoor

/-
  The plain disk of the statements as it lies in memory, and which disk that is. Plain facts; no condition beyond what each says.
-/
namespace Go.Proofs.YtinhdimalhfgkaaGreatDoor
open Go.RowKit
set_option maxRecDepth 100000
set_option linter.unusedVariables false

/-- The how many-th a sector was that was written first since, or 0. -/
def turnOf (l : List Nat) (i : Nat) : Nat := if i ∈ l then l.idxOf i + 1 else 0
theorem turnOf_no {l : List Nat} {i : Nat} (h : i ∉ l) : turnOf l i = 0 := if_neg h
theorem turnOf_pos {l : List Nat} {i : Nat} : 0 < turnOf l i ↔ i ∈ l := by
  unfold turnOf
  by_cases h : i ∈ l <;> simp [h]
theorem turnOf_le (l : List Nat) (i : Nat) : turnOf l i ≤ l.length := by
  unfold turnOf
  split
  · rename_i h; exact List.idxOf_lt_length_of_mem h
  · exact Nat.zero_le _
theorem turnOf_add {l : List Nat} {i : Nat} (hi : i ∉ l) (j : Nat) : turnOf (l ++ [i]) j = if j = i then l.length + 1 else turnOf l j := by
  unfold turnOf
  by_cases e : j = i
  · subst e
    rw [if_pos (by simp), if_pos rfl, List.idxOf_append, if_neg hi]
    simp
  · rw [if_neg e]
    by_cases h : j ∈ l
    · rw [if_pos (by simp [h]), if_pos h, List.idxOf_append, if_pos h]
    · rw [if_neg (by simp [h, e]), if_neg h]
theorem turnOf_get {l : List Nat} (hnd : l.Nodup) (t i : Nat) : l[t]? = some i ↔ turnOf l i = t + 1 := by
  unfold turnOf
  constructor
  · intro h
    obtain ⟨ht, e⟩ := List.getElem?_eq_some_iff.1 h
    have hm : i ∈ l := by rw [← e]; exact List.getElem_mem ht
    rw [if_pos hm]
    have h1 : l.idxOf i < l.length := List.idxOf_lt_length_of_mem hm
    have h2 : l[l.idxOf i] = i := List.getElem_idxOf h1
    have := (List.getElem_inj (h₀ := h1) (h₁ := ht) hnd).1 (h2.trans e.symm)
    omega
  · intro h
    by_cases hm : i ∈ l
    · rw [if_pos hm] at h
      have h1 : l.idxOf i < l.length := List.idxOf_lt_length_of_mem hm
      have e : t = l.idxOf i := by omega
      subst e
      rw [List.getElem?_eq_getElem h1, List.getElem_idxOf h1]
    · rw [if_neg hm] at h; omega

theorem DS.Ok.pend_len {S : DS} (h : S.Ok) : S.pend.length ≤ S.n := nodup_lt S.n S.pend h.pendNodup h.pendLt

/-- A sector's bytes behind a value: none (noughts), or 256 of a block of G's own. -/
def SecV (w : World) (G : Nat → Prop) (gx gl : Nat) (v : Value) (l : List Int) : Prop :=
  (v = .slice none 0 0 ∧ l = nought) ∨ ∃ (b off c : Nat), v = .slice (some ⟨b, off, none⟩) 256 c ∧ 256 ≤ c ∧ G b ∧ b ≠ gx ∧ b ≠ gl ∧ ∀ j, j < 256 → w.cell? ⟨b, off + j, none⟩ = some (.int .u8 (l[j]?.getD 0))

theorem SecV.keep {w w' : World} {G G' : Nat → Prop} {gx gl : Nat} {v : Value} {l : List Int} (h : SecV w G gx gl v l) (hG : ∀ k, G k → G' k) (hk : ∀ b o, G b → b ≠ gx → b ≠ gl → w'.cell? ⟨b, o, none⟩ = w.cell? ⟨b, o, none⟩) : SecV w' G' gx gl v l := by
  rcases h with h | ⟨b, off, c, e, hc, hb, h1, h2, hcell⟩
  · exact .inl h
  · exact .inr ⟨b, off, c, e, hc, hG b hb, h1, h2, fun j hj => (hk b _ hb h1 h2).trans (hcell j hj)⟩
theorem SecV.shape {w : World} {G : Nat → Prop} {gx gl : Nat} {v : Value} {l : List Int} (h : SecV w G gx gl v l) : ∃ A n c, v = .slice A n c := by
  rcases h with ⟨e, _⟩ | ⟨b, off, c, e, _⟩
  · exact ⟨_, _, _, e⟩
  · exact ⟨_, _, _, e⟩

def refHead (gl : Nat) (S : DS) : Nat → Value
  | 0 => .slice (some ⟨gl, 0, none⟩) S.n S.n
  | 1 => .int .i64 S.pend.length
  | 2 => .int .i64 S.writes
  | 3 => .int .i64 (S.arm.getD 0 : Nat)
  | 4 => .bool S.arm.isSome
  | _ => .bool S.down

section
variable {w w' : World} {G : Nat → Prop} {gx gl n : Nat} {hd : Nat → Value} {sf lf : Nat → List Int} {tf : Nat → Nat}

end

end Go.Proofs.YtinhdimalhfgkaaGreatDoor

/-
  The plain disk's calls by contract: New, Read, Fuse. No condition beyond the numbers' bounds.
-/
namespace Go.Proofs.YtinhdimalhfgkaaGreatDoor
open Go.RowKit
set_option maxRecDepth 100000
set_option linter.unusedVariables false

theorem infoU8 : (Tryz.prog.info? 5).map (fun i => (i.zero, i.size, i.bytes)) = some (some (.int .u8 0), 1, 1) := by kernel_rfl

/-- A row of n noughts of the call's own. -/
def Blank (w : World) (g N : Nat) (cur : List Value) : Prop := w.heap[g]? = some (.cells cur.toArray 5 (0, 0)) ∧ cur = List.replicate N (Value.int .u8 0)
theorem blank_new (w : World) (N : Nat) : Blank (w.alloc (.cells (madeCells #[.int .u8 0] N) 5)) w.heap.size N (madeCells #[.int .u8 0] N).toList := by
  refine ⟨by simpa using heap_alloc_new w _, ?_⟩
  apply List.ext_getElem?
  intro i
  by_cases hi : i < N
  · simp [madeCells, hi, Nat.mod_one]
  · simp [madeCells, hi]
theorem blank_get {w : World} {g N n : Nat} {cur : List Value} {l : List Int} (hcur : cur = List.replicate N (Value.int .u8 0)) (hl : l.length = n) (hn : n ≤ N)
    (hh : w.heap[g]? = some (.cells (splice cur 0 (l.map (Value.int .u8))).toArray 5 (0, 0))) (j : Nat) (hj : j < N) : w.cell? ⟨g, j, none⟩ = some (.int .u8 (l[j]?.getD 0)) := by
  subst hcur
  rw [cell_of_row w g j _ _ _ hh]
  by_cases h : j < n
  · simp [splice, List.getElem?_append, hl, h]
  · have e1 : l[j]? = none := List.getElem?_eq_none (by omega)
    rw [e1]
    have hj2 : j - n < N - n := by omega
    simp [splice, List.getElem?_append, hl, h, hj2]
theorem blank_read {w : World} {g : Nat} {cur : List Value} {l m : List Int} {n : Nat} (hcur : cur = List.replicate 256 (Value.int .u8 0)) (hl : l.length = n) (hb : AllBytes l) (h : (n = 0 ∧ m = nought) ∨ (n = 256 ∧ l = m))
    (hh : w.heap[g]? = some (.cells (splice cur 0 (l.map (Value.int .u8))).toArray 5 (0, 0))) : RB w w.heap.size (some ⟨g, 0, none⟩) 256 m := by
  have hlt : g < w.heap.size := by
    rcases Nat.lt_or_ge g w.heap.size with h' | h'
    · exact h'
    · rw [Array.getElem?_eq_none h'] at hh; cases hh
  have hget := blank_get hcur hl (by omega) hh
  have hm : m.length = 256 ∧ AllBytes m := by
    rcases h with ⟨rfl, rfl⟩ | ⟨rfl, rfl⟩
    · exact nought_ok
    · exact ⟨hl, hb⟩
  refine ⟨hm.1, hm.2, fun _ => ⟨g, 0, rfl, hlt, fun j hj => ?_⟩⟩
  rw [Nat.zero_add, hget j hj]
  rcases h with ⟨rfl, rfl⟩ | ⟨rfl, rfl⟩
  · obtain rfl : l = [] := List.eq_nil_of_length_eq_zero hl
    have : nought[j]?.getD 0 = 0 := reps_getD (n := 256) (c := 0) hj
    rw [this]; rfl
  · rfl

section
variable {w : World} {G : Nat → Prop} {x : Addr} {S : DS}

/-- What a sector's value reads as, for full. -/
theorem SecV.read {gx gl : Nat} {v : Value} {l : List Int} (hl : l.length = 256 ∧ AllBytes l) (h : SecV w G gx gl v l) (hG : ∀ k, G k → k < w.heap.size) : ∃ (A : Option Addr) (n c : Nat) (l' : List Int), v = .slice A n c ∧ n ≤ c ∧ RB w w.heap.size A n l' ∧ ((n = 0 ∧ l = nought) ∨ (n = 256 ∧ l' = l)) := by
  rcases h with ⟨e, hn⟩ | ⟨b, off, c, e, hc, hb, _, _, hcell⟩
  · exact ⟨none, 0, 0, [], e, Nat.le_refl _, RB.nil_, .inl ⟨rfl, hn⟩⟩
  · exact ⟨_, 256, c, l, e, hc, ⟨hl.1, hl.2, fun _ => ⟨b, off, rfl, hG b hb, hcell⟩⟩, .inr ⟨rfl, rfl⟩⟩

end

def oneZero : Array Value := #[.slice none 0 0, .slice none 0 0, .int .i64 0]
theorem Touch.set {F : Nat → Prop} {w w' : World} (h : Touch F w w') {b : Nat} (hb : F b) (o : Nat) (v : Value) : Touch F w (w'.setCell ⟨b, o, none⟩ v) :=
  ⟨h.os, h.tape, h.output, by simpa using h.size, fun k hk hF => (Below.heap_setCell w' ⟨b, o, none⟩ v k (fun e => hF (by rw [show k = b from e]; exact hb))).trans (h.block k hk hF)⟩
theorem Touch.drew {F : Nat → Prop} {w w' : World} (h : Touch F w w') : Touch F w w'.drew := ⟨h.os, h.tape, h.output, h.size, h.block⟩
theorem Touch.trans {F : Nat → Prop} {w w' w'' : World} (h : Touch F w w') (h' : Touch F w' w'') : Touch F w w'' :=
  ⟨h'.os.trans h.os, h'.tape.trans h.tape, h'.output.trans h.output, Nat.le_trans h.size h'.size, fun k hk hF => (h'.block k (Nat.lt_of_lt_of_le hk h.size) hF).trans (h.block k hk hF)⟩
theorem Touch.mono {F F' : Nat → Prop} {w w' : World} (h : Touch F w w') (hF : ∀ k, k < w.heap.size → F k → F' k) : Touch F' w w' := ⟨h.os, h.tape, h.output, h.size, fun k hk hf => h.block k hk (fun hh => hf (hF k hk hh))⟩

end Go.Proofs.YtinhdimalhfgkaaGreatDoor

/-
  The plain disk's Write by contract. Conditions: fewer than 2^46 bytes, fewer than 2^63 - 1 writes, bytes of a block apart.
-/
namespace Go.Proofs.YtinhdimalhfgkaaGreatDoor
open Go.RowKit
set_option maxRecDepth 100000
set_option linter.unusedVariables false

theorem RB.touch {w w' : World} {B n : Nat} {A : Option Addr} {l : List Int} {F : Nat → Prop} (h : RB w B A n l) (ht : Touch F w w') (hB : B ≤ w.heap.size) (hA : 0 < n → ∀ a, A = some a → ¬ F a.block) : RB w' B A n l :=
  ⟨h.1, h.2.1, fun hn => by
    obtain ⟨b, off, e, hb, hc⟩ := h.2.2 hn
    refine ⟨b, off, e, hb, fun j hj => ?_⟩
    rw [World.cell?_of_block (w := w) (ht.block b (by omega) (hA hn _ e))]
    exact hc j hj⟩

/-- append of bytes onto nil: a new block, as one step of a region that draws. -/
theorem step_append_fresh {ops : Array Oper} {o : Oper} {a : Act} {w : World} {K : Act → World → Prop} {Q : Exit → Act → World → Prop} {E : Prop} (hgd : o.guard = none) (s x : Operand)
    (ho : o.op = .call { callee := .builtin .append, args := #[s, x], argTypes := #[46, 46] })
    (hs : a.eval s = .slice none 0 0) (B b off m c : Nat) (l : List Int) (hx : a.eval x = .slice (some ⟨b, off, none⟩) m c) (hr : RB w B (some ⟨b, off, none⟩) m l) (hm : 0 < m) (h63 : m ≤ 140737488355328)
    (h : ∀ g cap w', g = w.heap.size → RB w' w'.heap.size (some ⟨g, 0, none⟩) m l → m ≤ cap → Below w.heap.size w w' → K (a.put o.dst (.slice (some ⟨g, 0, none⟩) m cap)) w') :
    if Region.wanted o (yielded ops a.tmps) = true then Oper.wp Tryz.prog o a w K Q else E := by
  obtain ⟨i0, hi, hz0, hz1, hz2⟩ := info_parts info_u8
  refine step_append_lies w hgd s x 46 ho w.heap.size 5 i0 (.int .u8 0) 1 1 Tryz.underlying46 hi hz0 hz1 hz2 rfl (by decide) (.slice none 0 0) 0 [] hs (World.ownsRow_nil _ _ _ _) ⟨b, off, none⟩ m c (l.map (Value.int .u8)) hx (by simp [hr.len]) ?_ (oneCell_bytes l) hm (by unfold maxLen; omega) (by omega) (Nat.le_refl _) w.heap.size rfl ?_
  · intro j u hj
    obtain ⟨ad', e, hc⟩ := hr.src j u hj
    cases e
    exact hc
  · intro g cap w' h1 h2 h3 _
    have hg : g = w.heap.size := by
      rcases h3 with h3 | h3
      · simp [Value.ownBlock] at h3
      · exact h3
    simp only [Nat.zero_add, List.nil_append] at h1
    obtain ⟨A', c', e, hc', hr'⟩ := read_own h1 hr.bytes
    simp only [Value.slice.injEq] at e
    obtain ⟨rfl, _, rfl⟩ := e
    have := h g cap w' hg hr' hc' ((Below.refl _ w).grown h2 (Nat.le_refl _) (own_ge (World.ownsRow_nil w w.heap.size 5 1)))
    simpa using this

section
variable {w : World} {G : Nat → Prop} {x : Addr} {S : DS}

theorem far_cell {w : World} {gx b : Nat} (h : b ≠ gx) (o : Nat) (v : Value) (o' : Nat) : (w.setCell ⟨gx, o, none⟩ v).cell? ⟨b, o', none⟩ = w.cell? ⟨b, o', none⟩ := World.cell?_of_block (w := w) (Below.heap_setCell w ⟨gx, o, none⟩ v b h)
theorem below_undrew {W w' : World} (h : Below W.drew.heap.size W.drew w') : Below W.heap.size W w' := (Below.refl W.heap.size W).drew.trans h
end

end Go.Proofs.YtinhdimalhfgkaaGreatDoor
