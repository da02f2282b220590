/-
  The texts RedoC, RedoD, LayRef, RefDiskP joined. Conditions: those that each part says at its head.
-/
import Derived.Test.YtfbljmkjiaklfaaGreatDoorG4
import Derived.Test.YtfbljmkjiaklfaaGreatDoorG1
import Derived.IntWalk
import Derived.Deep.OwnRows

/-
  Plain: wherever the disk goes down in a commit, or in opening it again: all its pages are there, or none. No program.
-/
namespace Go.Proofs.YtfbljmkjiaklfaaGreatDoor
open Go.RowKit
set_option maxRecDepth 100000
set_option linter.unusedVariables false

section
variable {S : DS} {f g : Nat → List Int} {n : Int}

/-! ### what is done when nothing fails -/
theorem write_done {i : Int} {l : List Int} (h : S.writeE i l = 0) : S.down = false ∧ S.write i l = S.put i.toNat l := by
  unfold DS.writeE at h
  split at h
  · cases h
  rename_i hd
  split at h
  · cases h
  rename_i h2
  split at h
  · cases h
  rename_i h3
  refine ⟨by simpa using hd, ?_⟩
  unfold DS.write
  rw [if_neg hd, if_neg h2, if_neg h3]
theorem flush_done (h : S.flushE = 0) : S.down = false ∧ S.flush = { S with safe := S.last, pend := [] } := by
  unfold DS.flushE at h
  split at h
  · cases h
  rename_i hd
  refine ⟨by simpa using hd, ?_⟩
  unfold DS.flush
  rw [if_neg hd]
theorem homes_done (l : List (Int × List Int)) : ∀ {S : DS}, (homesS S l).1 = 0 → Rests (homesS S l).2 (putH S.n S.last l) ∧ (homesS S l).2.n = S.n := by
  induction l with
  | nil =>
    intro S h
    obtain ⟨h1, h2⟩ := flush_done (S := S) h
    have e : (homesS S []).2 = { S with safe := S.last, pend := [] } := h2
    rw [e]
    exact ⟨⟨rfl, rfl, h1⟩, rfl⟩
  | cons x r ih =>
    obtain ⟨p, b⟩ := x
    intro S h
    unfold homesS thenS at h ⊢
    by_cases h0 : (S.wr (p + 1 + S.P) b).1 = 0
    · rw [if_pos h0] at h ⊢
      obtain ⟨h1, h2⟩ := write_done (S := S) (i := p + 1 + S.P) (l := b) h0
      have e : (S.wr (p + 1 + S.P) b).2 = S.put (p + 1 + S.P).toNat b := h2
      rw [e] at h ⊢
      obtain ⟨h3, h4⟩ := ih h
      exact ⟨h3, h4⟩
    · rw [if_neg h0] at h
      exact absurd h h0

/-- Sectors put one behind the other, from i on. -/
def putSl (f : Nat → List Int) (i : Nat) : List (Int × List Int) → Nat → List Int
  | [] => f
  | x :: r => putSl (putF f (i + 1) x.2) (i + 1) r
theorem putSl_far (l : List (Int × List Int)) : ∀ (f : Nat → List Int) (i j : Nat), j ≤ i ∨ i + l.length < j → putSl f i l j = f j := by
  induction l with
  | nil => intro f i j _; rfl
  | cons x r ih =>
    intro f i j h
    rw [putSl, ih _ _ _ (by simp only [List.length_cons] at h; omega), putF, if_neg (by simp only [List.length_cons] at h; omega)]
theorem putSl_at (l : List (Int × List Int)) : ∀ (f : Nat → List Int) (i k : Nat) (x : Int × List Int), l[k]? = some x → putSl f i l (i + k + 1) = x.2 := by
  induction l with
  | nil => intro f i k x h; simp at h
  | cons y r ih =>
    intro f i k x h
    rw [putSl]
    cases k with
    | zero =>
      obtain rfl : y = x := by simpa using h
      rw [putSl_far _ _ _ _ (.inl (by omega)), putF, if_pos (by omega)]
    | succ k =>
      rw [show i + (k + 1) + 1 = (i + 1) + k + 1 by omega]
      exact ih _ _ k x (by simpa using h)
theorem slots_done (l : List (Int × List Int)) : ∀ {S : DS} (i : Nat), S.down = false → (slotsS S i l).1 = 0 → (slotsS S i l).2.last = putSl S.last i l ∧ (slotsS S i l).2.n = S.n ∧ (slotsS S i l).2.down = false := by
  induction l with
  | nil => intro S i hd _; exact ⟨rfl, rfl, hd⟩
  | cons x r ih =>
    obtain ⟨p, b⟩ := x
    intro S i hd h
    unfold slotsS thenS at h ⊢
    by_cases h0 : (S.wr ((i : Int) + 1) b).1 = 0
    · rw [if_pos h0] at h ⊢
      obtain ⟨h1, h2⟩ := write_done (S := S) (i := (i : Int) + 1) (l := b) h0
      have e : (S.wr ((i : Int) + 1) b).2 = S.put (i + 1) b := by
        have : ((i : Int) + 1).toNat = i + 1 := by omega
        rw [← this]; exact h2
      rw [e] at h ⊢
      rw [show (i : Int) + 1 = ((i + 1 : Nat) : Int) by omega] at h ⊢
      obtain ⟨h3, h4, h5⟩ := ih (S := S.put (i + 1) b) (i + 1) hd h
      exact ⟨h3, h4, h5⟩
    · rw [if_neg h0] at h
      exact absurd h h0

/-! ### when nothing can fail -/
/-- A disk that is up and not armed. -/
structure Free (S : DS) : Prop where
  up : S.down = false
  arm : S.arm = none
theorem Free.write (h : Free S) {i : Int} {l : List Int} (hi : 0 ≤ i ∧ i < S.n) (hl : l.length = 256) : S.writeE i l = 0 ∧ Free (S.write i l) ∧ (S.write i l).n = S.n := by
  have e : S.writeE i l = 0 := by
    unfold DS.writeE
    rw [if_neg (by simp [h.up]), if_neg (fun h' => h' ⟨hi, hl⟩), if_neg (by simp [h.arm])]
  obtain ⟨_, h2⟩ := write_done e
  rw [h2]
  exact ⟨e, ⟨h.up, by show S.arm.map _ = none; rw [h.arm]; rfl⟩, rfl⟩
theorem Free.flush (h : Free S) : S.flushE = 0 ∧ Free S.flush := by
  have e : S.flushE = 0 := by unfold DS.flushE; rw [if_neg (by simp [h.up])]
  obtain ⟨_, h2⟩ := flush_done e
  rw [h2]
  exact ⟨e, h.up, h.arm⟩
theorem Free.homes (l : List (Int × List Int)) : ∀ {S : DS}, Free S → (∀ x ∈ l, (0 ≤ x.1 + 1 + S.P ∧ x.1 + 1 + S.P < S.n) ∧ x.2.length = 256) → (homesS S l).1 = 0 ∧ Free (homesS S l).2 := by
  induction l with
  | nil => intro S h _; exact h.flush
  | cons x r ih =>
    obtain ⟨p, b⟩ := x
    intro S h hv
    obtain ⟨v1, v2⟩ := hv _ (List.mem_cons_self ..)
    obtain ⟨h1, h2, h3⟩ := h.write v1 v2
    unfold homesS thenS
    rw [if_pos (show (S.wr (p + 1 + S.P) b).1 = 0 from h1)]
    have h3' : (S.write (p + 1 + S.P) b).n = S.n := h3
    have e1 : (S.wr (p + 1 + S.P) b).2.P = S.P := by
      show pagesOf ((S.write (p + 1 + S.P) b).n : Int) = pagesOf (S.n : Int)
      rw [h3']
    have e2 : (S.wr (p + 1 + S.P) b).2.n = S.n := h3
    exact ih h2 fun x hx => by
      rw [e1, e2]
      exact hv x (List.mem_cons_of_mem _ hx)
theorem Free.slots (l : List (Int × List Int)) : ∀ {S : DS} (i : Nat), Free S → i + l.length < S.n → (∀ x ∈ l, x.2.length = 256) → (slotsS S i l).1 = 0 ∧ Free (slotsS S i l).2 := by
  induction l with
  | nil => intro S i h _ _; exact ⟨rfl, h⟩
  | cons x r ih =>
    obtain ⟨p, b⟩ := x
    intro S i h hn hv
    simp only [List.length_cons] at hn
    obtain ⟨h1, h2, h3⟩ := h.write (i := (i : Int) + 1) (by omega) (hv _ (List.mem_cons_self ..))
    unfold slotsS thenS
    rw [if_pos (show (S.wr ((i : Int) + 1) b).1 = 0 from h1)]
    rw [show (i : Int) + 1 = ((i + 1 : Nat) : Int) by omega] at h2 h3 ⊢
    exact ih (i + 1) h2 (by show i + 1 + r.length < (S.write ((i + 1 : Nat) : Int) b).n; rw [h3]; omega) fun x hx => hv x (List.mem_cons_of_mem _ hx)

/-! ### images -/
theorem putH_same (l : List (Int × List Int)) : ∀ {f g : Nat → List Int} (j : Nat), (∃ x ∈ l, j = (x.1 + 1 + pagesOf n).toNat) ∨ f j = g j → putH n f l j = putH n g l j := by
  induction l with
  | nil =>
    intro f g j h
    rcases h with ⟨x, hx, _⟩ | h
    · cases hx
    · exact h
  | cons y r ih =>
    intro f g j h
    show putH n (putF f _ y.2) r j = putH n (putF g _ y.2) r j
    apply ih
    rcases h with ⟨x, hx, e⟩ | h
    · rcases List.mem_cons.1 hx with rfl | hx
      · right; unfold putF; rw [if_pos e, if_pos e]
      · exact .inl ⟨x, hx, e⟩
    · right
      unfold putF
      split
      · rfl
      · exact h
theorem putH_within (l : List (Int × List Int)) : ∀ {f g : Nat → List Int} {W : Nat → List Int → Prop}, Within f W g → (∀ x ∈ l, W (x.1 + 1 + pagesOf n).toNat x.2) → Within f W (putH n g l) := by
  induction l with
  | nil => intro f g W h _; exact h
  | cons y r ih =>
    intro f g W h hw
    exact ih (h.put (hw y (List.mem_cons_self ..))) fun x hx => hw x (List.mem_cons_of_mem _ hx)
theorem putH_far (l : List (Int × List Int)) : ∀ {f : Nat → List Int} (j : Nat), (∀ x ∈ l, j ≠ (x.1 + 1 + pagesOf n).toNat) → putH n f l j = f j := by
  induction l with
  | nil => intro f j _; rfl
  | cons y r ih =>
    intro f j h
    show putH n (putF f _ y.2) r j = f j
    rw [ih _ (fun x hx => h x (List.mem_cons_of_mem _ hx)), putF, if_neg (h y (List.mem_cons_self ..))]

/-- What stands on the slots' list. -/
theorem slotsUp_mem {seq : Int} : ∀ (k : Nat) {l : List (Int × List Int)}, slotsUp n f seq k = some l → l.length = k ∧ ∀ i x, l[i]? = some x → slotIn n f seq i = some x := by
  intro k
  induction k with
  | zero =>
    intro l h
    have : [] = l := by simpa [slotsUp] using h
    subst this
    exact ⟨rfl, fun i x hx => by simp at hx⟩
  | succ k ih =>
    intro l h
    unfold slotsUp at h
    split at h
    · rename_i l' x' h1 h2
      obtain rfl : l' ++ [x'] = l := by simpa using h
      obtain ⟨h3, h4⟩ := ih h1
      refine ⟨by simp [h3], fun i x hx => ?_⟩
      rcases Nat.lt_or_ge i l'.length with hi | hi
      · rw [List.getElem?_append_left hi] at hx
        exact h4 i x hx
      · rw [List.getElem?_append_right hi] at hx
        have hik : i - l'.length = 0 := by
          have := (List.getElem?_eq_some_iff.1 hx).1
          simp at this
          omega
        rw [hik] at hx
        obtain rfl : x' = x := by simpa using hx
        rw [show i = k by omega]
        exact h2
    · cases h
theorem slotsUp_of {seq : Int} : ∀ (k : Nat) {l : List (Int × List Int)}, l.length = k → (∀ i x, l[i]? = some x → slotIn n f seq i = some x) → slotsUp n f seq k = some l := by
  intro k
  induction k with
  | zero =>
    intro l h _
    rw [List.length_eq_zero_iff.1 h]
    rfl
  | succ k ih =>
    intro l h hx
    have hne : l ≠ [] := by intro e; rw [e] at h; cases h
    obtain ⟨l', x', rfl⟩ : ∃ l' x', l = l' ++ [x'] := ⟨l.dropLast, l.getLast hne, (List.dropLast_concat_getLast hne).symm⟩
    have hl' : l'.length = k := by simp at h; omega
    have h1 := ih hl' (fun i x hi => hx i x (by rw [List.getElem?_append_left ((List.getElem?_eq_some_iff.1 hi).1)]; exact hi))
    have h2 := hx k x' (by rw [List.getElem?_append_right (by omega)]; simp [hl'])
    unfold slotsUp
    rw [h1, h2]
theorem slotIn_some {seq : Int} {i : Nat} {x : Int × List Int} (h : slotIn n f seq i = some x) : (unpackR (f (i + 1))).2.2.2 = 0 ∧ (unpackR (f (i + 1))).2.1 = seq ∧ (unpackR (f (i + 1))).1 < pagesOf n ∧ x = ((unpackR (f (i + 1))).1, f (i + 1)) := by
  unfold slotIn at h
  split at h
  · rename_i hc
    exact ⟨hc.1, hc.2.1, hc.2.2, (by simpa using h.symm)⟩
  · cases h
theorem slotIn_same {seq : Int} {i : Nat} (e : g (i + 1) = f (i + 1)) : slotIn n g seq i = slotIn n f seq i := by
  unfold slotIn
  rw [e]
theorem unpack_page {l : List Int} (h : (unpackR l).2.2.2 = 0) : 0 ≤ (unpackR l).1 ∧ 0 ≤ (unpackR l).2.1 ∧ l.length = 256 := by
  unfold unpackR at h ⊢
  by_cases hs : isSec l
  · rw [if_pos hs]
    obtain ⟨h1, _, h3⟩ := hs
    have h4 := of_decide_eq_true h3
    exact ⟨h4.1, h4.2.2.1, h1⟩
  · rw [if_neg hs] at h
    cases h

/-- The list of the slots of an image, with its mark. -/
def listed (n : Int) (f : Nat → List Int) : Option (List (Int × List Int)) := slotsOf n f (unpackR (f 0)).1 (unpackR (f 0)).2.1
theorem opened_some {l : List (Int × List Int)} (h : listed n f = some l) : opened n f = putH n f l := by
  unfold opened
  rw [show slotsOf n f (unpackR (f 0)).1 (unpackR (f 0)).2.1 = some l from h]
theorem opened_none (h : listed n f = none) : opened n f = f := by
  unfold opened
  rw [show slotsOf n f (unpackR (f 0)).1 (unpackR (f 0)).2.1 = none from h]
theorem slotsOf_some {c s : Int} {l : List (Int × List Int)} (h : slotsOf n f c s = some l) : c ≤ pagesOf n ∧ slotsUp n f s c.toNat = some l := by
  unfold slotsOf at h
  split at h
  · cases h
  · rename_i hc
    exact ⟨by omega, h⟩
theorem slotsOf_of {c s : Int} {l : List (Int × List Int)} (hc : c ≤ pagesOf n) (h : slotsUp n f s c.toNat = some l) : slotsOf n f c s = some l := by
  unfold slotsOf
  rw [if_neg (by omega)]
  exact h
theorem listed_mem {l : List (Int × List Int)} (h : listed n f = some l) : ∀ x ∈ l, (0 ≤ x.1 ∧ x.1 < pagesOf n) ∧ x.2.length = 256 := by
  intro x hx
  obtain ⟨_, h2⟩ := slotsOf_some h
  obtain ⟨h3, h4⟩ := slotsUp_mem _ h2
  obtain ⟨i, hi, e⟩ := List.getElem_of_mem hx
  obtain ⟨h5, _, h6, h7⟩ := slotIn_some (h4 i x (by rw [List.getElem?_eq_getElem hi, e]))
  obtain ⟨h8, _, h9⟩ := unpack_page h5
  rw [h7]
  exact ⟨⟨h8, h6⟩, h9⟩

/-- The homes of a list. -/
def HomeW (n : Int) (l : List (Int × List Int)) (i : Nat) (b : List Int) : Prop := ∃ x ∈ l, i = (x.1 + 1 + pagesOf n).toNat ∧ b = x.2
theorem homeW_far {l : List (Int × List Int)} (hl : ∀ x ∈ l, 0 ≤ x.1) (h : Within f (HomeW n l) g) (hn : 0 ≤ pagesOf n) {j : Nat} (hj : (j : Int) ≤ pagesOf n) : g j = f j := by
  rcases h j with e | ⟨x, hx, e, _⟩
  · exact e
  · have := hl x hx
    omega

/-- An image that was opened in part is opened as the whole. -/
theorem opened_part {l : List (Int × List Int)} (hn : 0 ≤ pagesOf n) (h : listed n f = some l) (hw : Within f (HomeW n l) g) : listed n g = some l ∧ opened n g = opened n f := by
  have hl : ∀ x ∈ l, 0 ≤ x.1 := fun x hx => (listed_mem h x hx).1.1
  have e0 : g 0 = f 0 := homeW_far hl hw hn (by omega)
  have hg : listed n g = some l := by
    obtain ⟨h1, h2⟩ := slotsOf_some h
    obtain ⟨h3, h4⟩ := slotsUp_mem _ h2
    unfold listed
    rw [e0]
    refine slotsOf_of h1 (slotsUp_of _ h3 fun i x hx => ?_)
    have hi := (List.getElem?_eq_some_iff.1 hx).1
    rw [slotIn_same (homeW_far hl hw hn (by omega))]
    exact h4 i x hx
  refine ⟨hg, ?_⟩
  rw [opened_some h, opened_some hg]
  funext j
  apply putH_same
  rcases hw j with e | ⟨x, hx, e, _⟩
  · exact .inr e
  · exact .inl ⟨x, hx, e⟩
theorem opened_twice (hn : 0 ≤ pagesOf n) (f : Nat → List Int) : opened n (opened n f) = opened n f := by
  rcases h : listed n f with _ | l
  · rw [opened_none h, opened_none h]
  · rw [opened_some h]
    have hw : Within f (HomeW n l) (putH n f l) := putH_within l (Within.refl _ _) fun x hx => ⟨x, hx, rfl, rfl⟩
    rw [(opened_part hn h hw).2, opened_some h]
end

end Go.Proofs.YtfbljmkjiaklfaaGreatDoor

/-
  Plain: what a commit leaves, wherever the disk goes down in it; what Open makes of it. No program.
-/
namespace Go.Proofs.YtfbljmkjiaklfaaGreatDoor
open Go.RowKit
set_option maxRecDepth 100000
set_option linter.unusedVariables false

section
variable {S : DS} {f g : Nat → List Int} {n seq : Int}

/-- The slots of a list. -/
def SlotW (l : List (Int × List Int)) (i : Nat) (b : List Int) : Prop := ∃ k x, l[k]? = some x ∧ i = k + 1 ∧ b = x.2

/-- Images as a commit takes them. -/
structure Imgs (n seq : Int) (l : List (Int × List Int)) : Prop where
  page : ∀ x ∈ l, 0 ≤ x.1 ∧ x.1 < pagesOf n ∧ x.2.length = 240
  bytes : ∀ x ∈ l, AllBytes x.2
  once : (l.map (·.1)).Nodup
  few : (l.length : Int) ≤ pagesOf n
  seq0 : 0 ≤ seq
  seq1 : seq < 4611686018427387904

theorem Imgs.pack {l : List (Int × List Int)} (h : Imgs n seq l) {x : Int × List Int} (hx : x ∈ l) : (packR x.1 (seq + 1) x.2).1 = secL x.1 (seq + 1) x.2 ∧ unpackR (secL x.1 (seq + 1) x.2) = (x.1, seq + 1, x.2, 0) ∧ (secL x.1 (seq + 1) x.2).length = 256 := by
  obtain ⟨h1, h2, h3⟩ := h.page x hx
  have h4 := (pagesOf_nn n).2.2
  have h5 := h.seq0
  have h6 := h.seq1
  have hr : secR x.1 (seq + 1) = true := decide_eq_true ⟨h1, by omega, by omega, by omega⟩
  refine ⟨by unfold packR; rw [if_pos ⟨hr, h3⟩], unpack_pack (h.bytes x hx) hr h3, by rw [secL_length, h3]⟩
theorem Imgs.at_ {l : List (Int × List Int)} (h : Imgs n seq l) {k : Nat} {y : Int × List Int} (hy : (packs (seq + 1) l)[k]? = some y) : ∃ x, l[k]? = some x ∧ y = (x.1, secL x.1 (seq + 1) x.2) ∧ unpackR y.2 = (x.1, seq + 1, x.2, 0) ∧ y.2.length = 256 ∧ 0 ≤ x.1 ∧ x.1 < pagesOf n := by
  unfold packs at hy
  rw [List.getElem?_map] at hy
  rcases hx : l[k]? with _ | x
  · rw [hx] at hy; cases hy
  · rw [hx] at hy
    have hm := List.mem_of_getElem? hx
    obtain ⟨h1, h2, h3⟩ := h.pack hm
    obtain rfl : (x.1, (packR x.1 (seq + 1) x.2).1) = y := by simpa using hy
    obtain ⟨h4, h5, _⟩ := h.page x hm
    exact ⟨x, rfl, by rw [h1], by rw [h1]; exact h2, by rw [h1]; exact h3, h4, h5⟩
theorem Imgs.mem {l : List (Int × List Int)} (h : Imgs n seq l) {y : Int × List Int} (hy : y ∈ packs (seq + 1) l) : (0 ≤ y.1 ∧ y.1 < pagesOf n) ∧ y.2.length = 256 := by
  obtain ⟨k, hk, e⟩ := List.getElem_of_mem hy
  obtain ⟨x, _, h2, _, h4, h5, h6⟩ := h.at_ (k := k) (by rw [List.getElem?_eq_getElem hk, e])
  rw [h2] at h4 ⊢
  exact ⟨⟨h5, h6⟩, h4⟩

/-- The image with all slots and the mark of a commit. -/
def marked (f : Nat → List Int) (seq : Int) (l : List (Int × List Int)) : Nat → List Int := putF (putSl f 0 (packs (seq + 1) l)) 0 (secL l.length (seq + 1) zpage)

theorem packs_length (seq : Int) (l : List (Int × List Int)) : (packs seq l).length = l.length := by simp [packs]

/-- Slots that are overwritten do not change what is read. -/
theorem view_slots {l : List (Int × List Int)} (h : Imgs n seq l) (hs : (unpackR (f 0)).2.1 = seq) (hset : opened n f = f) (hw : Within f (SlotW (packs (seq + 1) l)) g) : g 0 = f 0 ∧ ∀ j : Nat, pagesOf n < j → opened n g j = f j := by
  have hfew := h.few
  have far : ∀ j : Nat, pagesOf n < j → g j = f j := fun j hj => by
    rcases hw j with e | ⟨k, x, hx, e, _⟩
    · exact e
    · have := (List.getElem?_eq_some_iff.1 hx).1
      rw [packs_length] at this
      omega
  have e0 : g 0 = f 0 := by
    rcases hw 0 with e | ⟨k, x, hx, e, _⟩
    · exact e
    · omega
  refine ⟨e0, fun j hj => ?_⟩
  rcases hl : listed n g with _ | ls
  · rw [opened_none hl]
    exact far j hj
  · have hf : listed n f = some ls := by
      obtain ⟨h1, h2⟩ := slotsOf_some hl
      rw [e0] at h1 h2
      obtain ⟨h3, h4⟩ := slotsUp_mem _ h2
      refine slotsOf_of h1 (slotsUp_of _ h3 fun i x hx => ?_)
      have hi := h4 i x hx
      rcases hw (i + 1) with e | ⟨k, y, hy, e, e2⟩
      · rw [← slotIn_same e]; exact hi
      · obtain ⟨_, h6, _⟩ := slotIn_some hi
        obtain ⟨z, _, _, h7, _⟩ := h.at_ hy
        rw [e2, h7, hs] at h6
        exact absurd h6 (by show ¬ (seq + 1 = seq); omega)
    rw [opened_some hl]
    have : putH n f ls j = f j := by rw [← opened_some hf, hset]
    rw [← this]
    exact putH_same ls j (.inr (far j hj))

/-- A mark that is there with all its slots: what is read is what was committed. -/
theorem view_marked {l : List (Int × List Int)} (h : Imgs n seq l) : unpackR (marked f seq l 0) = ((l.length : Int), seq + 1, zpage, 0) ∧ listed n (marked f seq l) = some (packs (seq + 1) l) ∧ ∀ j : Nat, pagesOf n < j → marked f seq l j = f j := by
  have hfew := h.few
  have h4 := (pagesOf_nn n).2.2
  have h5 := h.seq0
  have h6 := h.seq1
  have hr : secR l.length (seq + 1) = true := decide_eq_true ⟨by omega, by omega, by omega, by omega⟩
  have e0 : unpackR (marked f seq l 0) = ((l.length : Int), seq + 1, zpage, 0) := by
    unfold marked putF
    rw [if_pos rfl]
    exact unpack_pack zpage_ok.2 hr zpage_ok.1
  refine ⟨e0, ?_, fun j hj => ?_⟩
  · unfold listed
    rw [e0]
    refine slotsOf_of hfew (slotsUp_of _ (by rw [packs_length]; simp) fun i y hy => ?_)
    obtain ⟨x, _, h8, h9, _, h10, h11⟩ := h.at_ hy
    have e1 : marked f seq l (i + 1) = y.2 := by
      unfold marked putF
      rw [if_neg (by omega)]
      have := putSl_at (packs (seq + 1) l) f 0 i y hy
      rwa [Nat.zero_add] at this
    unfold slotIn
    rw [e1, h9, if_pos ⟨rfl, rfl, h11⟩, h8]
  · unfold marked putF
    rw [if_neg (by omega), putSl_far _ _ _ _ (.inr (by rw [packs_length]; omega))]

theorem P_write (S : DS) (i : Int) (l : List Int) : (S.write i l).n = S.n := by
  unfold DS.write
  split
  · rfl
  split
  · rfl
  split <;> rfl
theorem P_flush (S : DS) : S.flush.n = S.n := by
  unfold DS.flush
  split <;> rfl
theorem P_homes (l : List (Int × List Int)) : ∀ S : DS, (homesS S l).2.n = S.n := by
  induction l with
  | nil => exact fun S => P_flush S
  | cons x r ih =>
    obtain ⟨p, b⟩ := x
    intro S
    unfold homesS thenS
    split
    · rw [ih]; exact P_write S _ _
    · exact P_write S _ _
theorem P_slots (l : List (Int × List Int)) : ∀ (S : DS) (i : Int), (slotsS S i l).2.n = S.n := by
  induction l with
  | nil => exact fun S i => rfl
  | cons x r ih =>
    obtain ⟨p, b⟩ := x
    intro S i
    unfold slotsS thenS
    split
    · rw [ih]; exact P_write S _ _
    · exact P_write S _ _

/-- What a commit leaves: slots alone, or the mark with all slots and some homes. -/
theorem commit_leaves {l : List (Int × List Int)} (hn : n = S.n) (h : Imgs n seq l) (hne : l ≠ []) (hR : Rests S f) :
    (commitS S seq l).2.2.n = S.n ∧ (((commitS S seq l).1 ≠ 0 ∧ Both f (SlotW (packs (seq + 1) l)) (commitS S seq l).2.2) ∨ (Both (marked f seq l) (HomeW n (packs (seq + 1) l)) (commitS S seq l).2.2 ∧ ((commitS S seq l).1 = 0 → Rests (commitS S seq l).2.2 (putH n (marked f seq l) (packs (seq + 1) l))))) := by
  have hP : S.P = pagesOf n := by unfold DS.P; rw [hn]
  have hright : rightS S l := ⟨fun x hx => by rw [hP]; exact h.page x hx, h.once⟩
  unfold commitS
  rw [if_neg (by have := h.few; omega), if_neg (fun h' => h' hright), if_neg hne]
  simp only []
  have hB : Both f (SlotW (packs (seq + 1) l)) (slotsS S 0 (packs (seq + 1) l)).2 := Both.slots _ 0 (hR.both _) fun k x hx => ⟨k, x, hx, by omega, rfl⟩
  have hn1 := P_slots (packs (seq + 1) l) S 0
  have hsd := slots_done (packs (seq + 1) l) (S := S) 0 hR.up
  generalize hA : slotsS S 0 (packs (seq + 1) l) = A at hB hn1
  rw [show slotsS S ((0 : Nat) : Int) (packs (seq + 1) l) = A from hA] at hsd
  by_cases h0' : ¬ A.1 = 0
  · have h0 := h0'
    have e : thenS A DS.fl = A := by unfold thenS; rw [if_neg h0]
    rw [e, if_pos h0]
    exact ⟨hn1, .inl ⟨h0, hB⟩⟩
  have h0 : A.1 = 0 := Classical.not_not.1 h0'
  obtain ⟨e1, _, e2⟩ := hsd h0
  have e : thenS A DS.fl = (A.2.flushE, A.2.flush) := by unfold thenS; rw [if_pos h0]; rfl
  rw [e]
  have hf0 : A.2.flushE = 0 := by unfold DS.flushE; rw [if_neg (by simp [e2])]
  obtain ⟨_, e3⟩ := flush_done hf0
  rw [if_neg (fun h' => h' hf0)]
  have hB2 : Both f (SlotW (packs (seq + 1) l)) A.2.flush := hB.flush
  have hn2 : A.2.flush.n = S.n := (P_flush _).trans hn1
  have hl2 : A.2.flush.last = putSl f 0 (packs (seq + 1) l) := by rw [e3]; show A.2.last = _; rw [e1, hR.last]
  have hu2 : A.2.flush.down = false := by rw [e3]; exact e2
  generalize A.2.flush = S2 at hB2 hn2 hl2 hu2
  have hfew := h.few
  have h4 := (pagesOf_nn n).2.2
  have h5 := h.seq0
  have h6 := h.seq1
  have hr : secR l.length (seq + 1) = true := decide_eq_true ⟨by omega, by omega, by omega, by omega⟩
  have hpk : (packR l.length (seq + 1) zpage).1 = secL l.length (seq + 1) zpage := by unfold packR; rw [if_pos ⟨hr, zpage_ok.1⟩]
  have hmk : markS S2 l.length (seq + 1) = thenS (S2.wr 0 (secL l.length (seq + 1) zpage)) DS.fl := by unfold markS; rw [hpk]
  rw [hmk]
  by_cases hm0' : ¬ (S2.wr 0 (secL l.length (seq + 1) zpage)).1 = 0
  · have hm0 := hm0'
    have e : thenS (S2.wr 0 (secL l.length (seq + 1) zpage)) DS.fl = S2.wr 0 (secL l.length (seq + 1) zpage) := by unfold thenS; rw [if_neg hm0]
    rw [e, if_pos hm0]
    refine ⟨(P_write S2 _ _).trans hn2, .inl ⟨hm0, ?_⟩⟩
    have hE : S2.writeE 0 (secL l.length (seq + 1) zpage) ≠ 0 := hm0
    show Both f _ (S2.write 0 (secL l.length (seq + 1) zpage))
    unfold DS.write
    split
    · exact hB2
    rename_i g1
    split
    · exact hB2
    rename_i g2
    split
    · exact hB2
    rename_i g3
    unfold DS.writeE at hE
    rw [if_neg g1, if_neg g2, if_neg g3] at hE
    exact absurd rfl hE
  have hm0 : (S2.wr 0 (secL l.length (seq + 1) zpage)).1 = 0 := Classical.not_not.1 hm0'
  obtain ⟨_, e4⟩ := write_done (S := S2) (i := 0) (l := secL l.length (seq + 1) zpage) hm0
  have e5 : (S2.wr 0 (secL l.length (seq + 1) zpage)).2 = S2.put 0 (secL l.length (seq + 1) zpage) := e4
  have e : thenS (S2.wr 0 (secL l.length (seq + 1) zpage)) DS.fl = (S2.put 0 (secL l.length (seq + 1) zpage)).fl := by unfold thenS; rw [if_pos hm0, e5]
  rw [e]
  have hu3 : (S2.put 0 (secL l.length (seq + 1) zpage)).down = false := hu2
  have hf3 : (S2.put 0 (secL l.length (seq + 1) zpage)).flushE = 0 := by unfold DS.flushE; rw [if_neg (by simp [hu3])]
  obtain ⟨_, e6⟩ := flush_done hf3
  have hl3 : (S2.put 0 (secL l.length (seq + 1) zpage)).last = marked f seq l := by
    show putF S2.last 0 _ = _
    rw [hl2]
    rfl
  rw [if_neg (fun h' => h' hf3)]
  have e7 : (S2.put 0 (secL l.length (seq + 1) zpage)).fl.2 = (S2.put 0 (secL l.length (seq + 1) zpage)).flush := rfl
  rw [e7]
  have hR4 : Rests (S2.put 0 (secL l.length (seq + 1) zpage)).flush (marked f seq l) := by
    rw [e6]
    exact ⟨hl3, hl3, hu3⟩
  have hn4 : (S2.put 0 (secL l.length (seq + 1) zpage)).flush.n = S.n := (P_flush _).trans hn2
  generalize (S2.put 0 (secL l.length (seq + 1) zpage)).flush = S4 at hR4 hn4
  have hP4 : S4.P = pagesOf n := by unfold DS.P; rw [hn4, hn]
  refine ⟨(P_homes _ _).trans hn4, .inr ⟨Both.homes _ (hR4.both _) fun x hx => ⟨x, hx, by rw [hP4], rfl⟩, fun hz => ?_⟩⟩
  obtain ⟨h8, _⟩ := homes_done (packs (seq + 1) l) hz
  rw [hn4, hR4.last, ← hn] at h8
  exact h8

/-- What Open leaves, wherever the disk goes down in it. -/
theorem open_leaves (hn : n = S.n) (hR : Rests S g) (hm : (unpackR (g 0)).2.2.2 = 0) (kept : List Int) : ∃ g', Rests ((openS S).2.2.crash kept) g' ∧ g' 0 = g 0 ∧ opened n g' = opened n g ∧ ((openS S).2.2.crash kept).n = S.n := by
  have hl : S.last = g := hR.last
  have hnn := (pagesOf_nn n).1
  unfold openS
  rw [if_neg (by simp [hR.up]), hl, if_neg (fun h' => h' hm), ← hn]
  rcases h : listed n g with _ | l
  · rw [show slotsOf n g (unpackR (g 0)).1 (unpackR (g 0)).2.1 = none from h]
    obtain ⟨h1, h2⟩ := (hR.both (fun _ _ => False)).crash kept
    have e : (S.crash kept).last = g := by
      funext i
      rcases h1 i with e | e
      · exact e
      · exact e.elim
    rw [e] at h2
    exact ⟨g, h2, rfl, rfl, rfl⟩
  · rw [show slotsOf n g (unpackR (g 0)).1 (unpackR (g 0)).2.1 = some l from h]
    have hP : S.P = pagesOf n := by unfold DS.P; rw [hn]
    have hB : Both g (HomeW n l) (homesS S l).2 := Both.homes l (hR.both _) fun x hx => ⟨x, hx, by rw [hP], rfl⟩
    obtain ⟨h1, h2⟩ := hB.crash kept
    have h3 : ((homesS S l).2.crash kept).n = S.n := P_homes l S
    have h4 : ((homesS S l).2.crash kept).last 0 = g 0 := homeW_far (fun x hx => (listed_mem h x hx).1.1) h1 hnn (by omega)
    have h5 := (opened_part hnn h h1).2
    simp only []
    split
    · exact ⟨_, h2, h4, h5, h3⟩
    · exact ⟨_, h2, h4, h5, h3⟩

/-- What Open leaves where the disk stays up. -/
theorem open_free (hn : n = S.n) (hok : 3 ≤ n) (hF : Free S) (hR : Rests S g) (hm : (unpackR (g 0)).2.2.2 = 0) : (openS S).1 = 0 ∧ (openS S).2.1 = (unpackR (g 0)).2.1 ∧ Rests (openS S).2.2 (opened n g) ∧ Free (openS S).2.2 ∧ (openS S).2.2.n = S.n := by
  have hl : S.last = g := hR.last
  have hnn := pagesOf_nn n
  unfold openS
  rw [if_neg (by simp [hR.up]), hl, if_neg (fun h' => h' hm), ← hn]
  rcases h : listed n g with _ | l
  · rw [show slotsOf n g (unpackR (g 0)).1 (unpackR (g 0)).2.1 = none from h, opened_none h]
    exact ⟨rfl, rfl, hR, hF, rfl⟩
  · rw [show slotsOf n g (unpackR (g 0)).1 (unpackR (g 0)).2.1 = some l from h, opened_some h]
    have hP : S.P = pagesOf n := by unfold DS.P; rw [hn]
    obtain ⟨h1, h2⟩ := hF.homes l fun x hx => by
      obtain ⟨⟨a, b⟩, c⟩ := listed_mem h x hx
      have := hnn.2.1 hok
      exact ⟨⟨by rw [hP]; omega, by rw [hP, ← hn]; omega⟩, c⟩
    obtain ⟨h3, h4⟩ := homes_done l h1
    simp only []
    rw [if_neg (fun h' => h' h1)]
    rw [← hn, hl] at h3
    exact ⟨rfl, rfl, h3, h2, h4⟩
theorem load_rests (hn : n = S.n) (hR : Rests S g) {p : Int} (hp : 0 ≤ p ∧ p < pagesOf n) : loadS S p = (pageIn n g p, 0) := by
  have hP : S.P = pagesOf n := by unfold DS.P; rw [hn]
  unfold loadS pageIn
  rw [hP, hR.last, if_neg (by omega), if_neg (by simp [hR.up])]
  split <;> rfl
end

end Go.Proofs.YtfbljmkjiaklfaaGreatDoor

/-
  Contracts of the plain answers of layout: for any numbers they answer how many pages there are and where they stand; nothing is written. No condition.
-/
namespace Go.Proofs.YtfbljmkjiaklfaaGreatDoor
open Go.RowKit
set_option maxRecDepth 100000
set_option linter.unusedVariables false

end Go.Proofs.YtfbljmkjiaklfaaGreatDoor

/-
  The plain disk of the statements as it lies in memory, and which disk that is. Plain facts; no condition beyond what each says.
-/
namespace Go.Proofs.YtfbljmkjiaklfaaGreatDoor
open Go.RowKit
set_option maxRecDepth 100000
set_option linter.unusedVariables false

/-- The how many-th a sector was that was written first since, or 0. -/
def turnOf (l : List Nat) (i : Nat) : Nat := if i ∈ l then l.idxOf i + 1 else 0
theorem turnOf_no {l : List Nat} {i : Nat} (h : i ∉ l) : turnOf l i = 0 := if_neg h
theorem turnOf_pos {l : List Nat} {i : Nat} : 0 < turnOf l i ↔ i ∈ l := by
  unfold turnOf
  by_cases h : i ∈ l <;> simp [h]
theorem turnOf_le (l : List Nat) (i : Nat) : turnOf l i ≤ l.length := by
  unfold turnOf
  split
  · rename_i h; exact List.idxOf_lt_length_of_mem h
  · exact Nat.zero_le _
theorem turnOf_add {l : List Nat} {i : Nat} (hi : i ∉ l) (j : Nat) : turnOf (l ++ [i]) j = if j = i then l.length + 1 else turnOf l j := by
  unfold turnOf
  by_cases e : j = i
  · subst e
    rw [if_pos (by simp), if_pos rfl, List.idxOf_append, if_neg hi]
    simp
  · rw [if_neg e]
    by_cases h : j ∈ l
    · rw [if_pos (by simp [h]), if_pos h, List.idxOf_append, if_pos h]
    · rw [if_neg (by simp [h, e]), if_neg h]
theorem turnOf_get {l : List Nat} (hnd : l.Nodup) (t i : Nat) : l[t]? = some i ↔ turnOf l i = t + 1 := by
  unfold turnOf
  constructor
  · intro h
    obtain ⟨ht, e⟩ := List.getElem?_eq_some_iff.1 h
    have hm : i ∈ l := by rw [← e]; exact List.getElem_mem ht
    rw [if_pos hm]
    have h1 : l.idxOf i < l.length := List.idxOf_lt_length_of_mem hm
    have h2 : l[l.idxOf i] = i := List.getElem_idxOf h1
    have := (List.getElem_inj (h₀ := h1) (h₁ := ht) hnd).1 (h2.trans e.symm)
    omega
  · intro h
    by_cases hm : i ∈ l
    · rw [if_pos hm] at h
      have h1 : l.idxOf i < l.length := List.idxOf_lt_length_of_mem hm
      have e : t = l.idxOf i := by omega
      subst e
      rw [List.getElem?_eq_getElem h1, List.getElem_idxOf h1]
    · rw [if_neg hm] at h; omega

theorem DS.Ok.pend_len {S : DS} (h : S.Ok) : S.pend.length ≤ S.n := nodup_lt S.n S.pend h.pendNodup h.pendLt

/-- A sector's bytes behind a value: none (noughts), or 256 of a block of G's own. -/
def SecV (w : World) (G : Nat → Prop) (gx gl : Nat) (v : Value) (l : List Int) : Prop :=
  (v = .slice none 0 0 ∧ l = nought) ∨ ∃ (b off c : Nat), v = .slice (some ⟨b, off, none⟩) 256 c ∧ 256 ≤ c ∧ G b ∧ b ≠ gx ∧ b ≠ gl ∧ ∀ j, j < 256 → w.cell? ⟨b, off + j, none⟩ = some (.int .u8 (l[j]?.getD 0))

theorem SecV.keep {w w' : World} {G G' : Nat → Prop} {gx gl : Nat} {v : Value} {l : List Int} (h : SecV w G gx gl v l) (hG : ∀ k, G k → G' k) (hk : ∀ b o, G b → b ≠ gx → b ≠ gl → w'.cell? ⟨b, o, none⟩ = w.cell? ⟨b, o, none⟩) : SecV w' G' gx gl v l := by
  rcases h with h | ⟨b, off, c, e, hc, hb, h1, h2, hcell⟩
  · exact .inl h
  · exact .inr ⟨b, off, c, e, hc, hG b hb, h1, h2, fun j hj => (hk b _ hb h1 h2).trans (hcell j hj)⟩
theorem SecV.shape {w : World} {G : Nat → Prop} {gx gl : Nat} {v : Value} {l : List Int} (h : SecV w G gx gl v l) : ∃ A n c, v = .slice A n c := by
  rcases h with ⟨e, _⟩ | ⟨b, off, c, e, _⟩
  · exact ⟨_, _, _, e⟩
  · exact ⟨_, _, _, e⟩

def refHead (gl : Nat) (S : DS) : Nat → Value
  | 0 => .slice (some ⟨gl, 0, none⟩) S.n S.n
  | 1 => .int .i64 S.pend.length
  | 2 => .int .i64 S.writes
  | 3 => .int .i64 (S.arm.getD 0 : Nat)
  | 4 => .bool S.arm.isSome
  | _ => .bool S.down

section
variable {w w' : World} {G : Nat → Prop} {gx gl n : Nat} {hd : Nat → Value} {sf lf : Nat → List Int} {tf : Nat → Nat}

end

end Go.Proofs.YtfbljmkjiaklfaaGreatDoor
