/-
  The texts RedoD, LayRef, RefDiskP, RefDiskF, RefDiskG, RefDiskH, RefDiskI, RefPut, SecRef, Equal, SecSaidB, RedoRA, IntApp, TwoRows, RedoRB, RedoRC joined. Conditions: those that each part says at its head.
-/
import Derived.Test.YtkpmfobmlaldfaaDoorG1
import Derived.IntWalk
import Derived.Deep.OwnRows
import Derived.Laws.CopyOwn
import Derived.Deep.RegionLaw
import Derived.Deep.AppendLies
import Derived.BigRegion
import Derived.Deep.RegionHeld3
import Derived.Laws.BytesArg
import Derived.Lib.Bytes
import Derived.Laws.AppendOwnNone
import Derived.Maps.AppendAt
import Derived.BigQuiet

/-
  Plain: what a commit leaves, wherever the disk goes down in it; what Open makes of it. No program.
-/
namespace Go.Proofs.YtkpmfobmlaldfaaDoor
open Go.RowKit
set_option maxRecDepth 100000
set_option linter.unusedVariables false

section
variable {S : DS} {f g : Nat → List Int} {n seq : Int}

/-- The slots of a list. -/
def SlotW (l : List (Int × List Int)) (i : Nat) (b : List Int) : Prop := ∃ k x, l[k]? = some x ∧ i = k + 1 ∧ b = x.2

/-- Images as a commit takes them. -/
structure Imgs (n seq : Int) (l : List (Int × List Int)) : Prop where
  page : ∀ x ∈ l, 0 ≤ x.1 ∧ x.1 < pagesOf n ∧ x.2.length = 240
  bytes : ∀ x ∈ l, AllBytes x.2
  once : (l.map (·.1)).Nodup
  few : (l.length : Int) ≤ pagesOf n
  seq0 : 0 ≤ seq
  seq1 : seq < 4611686018427387904

theorem Imgs.pack {l : List (Int × List Int)} (h : Imgs n seq l) {x : Int × List Int} (hx : x ∈ l) : (packR x.1 (seq + 1) x.2).1 = secL x.1 (seq + 1) x.2 ∧ unpackR (secL x.1 (seq + 1) x.2) = (x.1, seq + 1, x.2, 0) ∧ (secL x.1 (seq + 1) x.2).length = 256 := by
  obtain ⟨h1, h2, h3⟩ := h.page x hx
  have h4 := (pagesOf_nn n).2.2
  have h5 := h.seq0
  have h6 := h.seq1
  have hr : secR x.1 (seq + 1) = true := decide_eq_true ⟨h1, by omega, by omega, by omega⟩
  refine ⟨by unfold packR; rw [if_pos ⟨hr, h3⟩], unpack_pack (h.bytes x hx) hr h3, by rw [secL_length, h3]⟩
theorem Imgs.at_ {l : List (Int × List Int)} (h : Imgs n seq l) {k : Nat} {y : Int × List Int} (hy : (packs (seq + 1) l)[k]? = some y) : ∃ x, l[k]? = some x ∧ y = (x.1, secL x.1 (seq + 1) x.2) ∧ unpackR y.2 = (x.1, seq + 1, x.2, 0) ∧ y.2.length = 256 ∧ 0 ≤ x.1 ∧ x.1 < pagesOf n := by
  unfold packs at hy
  rw [List.getElem?_map] at hy
  rcases hx : l[k]? with _ | x
  · rw [hx] at hy; cases hy
  · rw [hx] at hy
    have hm := List.mem_of_getElem? hx
    obtain ⟨h1, h2, h3⟩ := h.pack hm
    obtain rfl : (x.1, (packR x.1 (seq + 1) x.2).1) = y := by simpa using hy
    obtain ⟨h4, h5, _⟩ := h.page x hm
    exact ⟨x, rfl, by rw [h1], by rw [h1]; exact h2, by rw [h1]; exact h3, h4, h5⟩
theorem Imgs.mem {l : List (Int × List Int)} (h : Imgs n seq l) {y : Int × List Int} (hy : y ∈ packs (seq + 1) l) : (0 ≤ y.1 ∧ y.1 < pagesOf n) ∧ y.2.length = 256 := by
  obtain ⟨k, hk, e⟩ := List.getElem_of_mem hy
  obtain ⟨x, _, h2, _, h4, h5, h6⟩ := h.at_ (k := k) (by rw [List.getElem?_eq_getElem hk, e])
  rw [h2] at h4 ⊢
  exact ⟨⟨h5, h6⟩, h4⟩

/-- The image with all slots and the mark of a commit. -/
def marked (f : Nat → List Int) (seq : Int) (l : List (Int × List Int)) : Nat → List Int := putF (putSl f 0 (packs (seq + 1) l)) 0 (secL l.length (seq + 1) zpage)

theorem packs_length (seq : Int) (l : List (Int × List Int)) : (packs seq l).length = l.length := by simp [packs]

/-- Slots that are overwritten do not change what is read. -/
theorem view_slots {l : List (Int × List Int)} (h : Imgs n seq l) (hs : (unpackR (f 0)).2.1 = seq) (hset : opened n f = f) (hw : Within f (SlotW (packs (seq + 1) l)) g) : g 0 = f 0 ∧ ∀ j : Nat, pagesOf n < j → opened n g j = f j := by
  have hfew := h.few
  have far : ∀ j : Nat, pagesOf n < j → g j = f j := fun j hj => by
    rcases hw j with e | ⟨k, x, hx, e, _⟩
    · exact e
    · have := (List.getElem?_eq_some_iff.1 hx).1
      rw [packs_length] at this
      omega
  have e0 : g 0 = f 0 := by
    rcases hw 0 with e | ⟨k, x, hx, e, _⟩
    · exact e
    · omega
  refine ⟨e0, fun j hj => ?_⟩
  rcases hl : listed n g with _ | ls
  · rw [opened_none hl]
    exact far j hj
  · have hf : listed n f = some ls := by
      obtain ⟨h1, h2⟩ := slotsOf_some hl
      rw [e0] at h1 h2
      obtain ⟨h3, h4⟩ := slotsUp_mem _ h2
      refine slotsOf_of h1 (slotsUp_of _ h3 fun i x hx => ?_)
      have hi := h4 i x hx
      rcases hw (i + 1) with e | ⟨k, y, hy, e, e2⟩
      · rw [← slotIn_same e]; exact hi
      · obtain ⟨_, h6, _⟩ := slotIn_some hi
        obtain ⟨z, _, _, h7, _⟩ := h.at_ hy
        rw [e2, h7, hs] at h6
        exact absurd h6 (by show ¬ (seq + 1 = seq); omega)
    rw [opened_some hl]
    have : putH n f ls j = f j := by rw [← opened_some hf, hset]
    rw [← this]
    exact putH_same ls j (.inr (far j hj))

/-- A mark that is there with all its slots: what is read is what was committed. -/
theorem view_marked {l : List (Int × List Int)} (h : Imgs n seq l) : unpackR (marked f seq l 0) = ((l.length : Int), seq + 1, zpage, 0) ∧ listed n (marked f seq l) = some (packs (seq + 1) l) ∧ ∀ j : Nat, pagesOf n < j → marked f seq l j = f j := by
  have hfew := h.few
  have h4 := (pagesOf_nn n).2.2
  have h5 := h.seq0
  have h6 := h.seq1
  have hr : secR l.length (seq + 1) = true := decide_eq_true ⟨by omega, by omega, by omega, by omega⟩
  have e0 : unpackR (marked f seq l 0) = ((l.length : Int), seq + 1, zpage, 0) := by
    unfold marked putF
    rw [if_pos rfl]
    exact unpack_pack zpage_ok.2 hr zpage_ok.1
  refine ⟨e0, ?_, fun j hj => ?_⟩
  · unfold listed
    rw [e0]
    refine slotsOf_of hfew (slotsUp_of _ (by rw [packs_length]; simp) fun i y hy => ?_)
    obtain ⟨x, _, h8, h9, _, h10, h11⟩ := h.at_ hy
    have e1 : marked f seq l (i + 1) = y.2 := by
      unfold marked putF
      rw [if_neg (by omega)]
      have := putSl_at (packs (seq + 1) l) f 0 i y hy
      rwa [Nat.zero_add] at this
    unfold slotIn
    rw [e1, h9, if_pos ⟨rfl, rfl, h11⟩, h8]
  · unfold marked putF
    rw [if_neg (by omega), putSl_far _ _ _ _ (.inr (by rw [packs_length]; omega))]

theorem P_write (S : DS) (i : Int) (l : List Int) : (S.write i l).n = S.n := by
  unfold DS.write
  split
  · rfl
  split
  · rfl
  split <;> rfl
theorem P_flush (S : DS) : S.flush.n = S.n := by
  unfold DS.flush
  split <;> rfl
theorem P_homes (l : List (Int × List Int)) : ∀ S : DS, (homesS S l).2.n = S.n := by
  induction l with
  | nil => exact fun S => P_flush S
  | cons x r ih =>
    obtain ⟨p, b⟩ := x
    intro S
    unfold homesS thenS
    split
    · rw [ih]; exact P_write S _ _
    · exact P_write S _ _
theorem P_slots (l : List (Int × List Int)) : ∀ (S : DS) (i : Int), (slotsS S i l).2.n = S.n := by
  induction l with
  | nil => exact fun S i => rfl
  | cons x r ih =>
    obtain ⟨p, b⟩ := x
    intro S i
    unfold slotsS thenS
    split
    · rw [ih]; exact P_write S _ _
    · exact P_write S _ _

/-- What a commit leaves: slots alone, or the mark with all slots and some homes. -/
theorem commit_leaves {l : List (Int × List Int)} (hn : n = S.n) (h : Imgs n seq l) (hne : l ≠ []) (hR : Rests S f) :
    (commitS S seq l).2.2.n = S.n ∧ (((commitS S seq l).1 ≠ 0 ∧ Both f (SlotW (packs (seq + 1) l)) (commitS S seq l).2.2) ∨ (Both (marked f seq l) (HomeW n (packs (seq + 1) l)) (commitS S seq l).2.2 ∧ ((commitS S seq l).1 = 0 → Rests (commitS S seq l).2.2 (putH n (marked f seq l) (packs (seq + 1) l))))) := by
  have hP : S.P = pagesOf n := by unfold DS.P; rw [hn]
  have hright : rightS S l := ⟨fun x hx => by rw [hP]; exact h.page x hx, h.once⟩
  unfold commitS
  rw [if_neg (by have := h.few; omega), if_neg (fun h' => h' hright), if_neg hne]
  simp only []
  have hB : Both f (SlotW (packs (seq + 1) l)) (slotsS S 0 (packs (seq + 1) l)).2 := Both.slots _ 0 (hR.both _) fun k x hx => ⟨k, x, hx, by omega, rfl⟩
  have hn1 := P_slots (packs (seq + 1) l) S 0
  have hsd := slots_done (packs (seq + 1) l) (S := S) 0 hR.up
  generalize hA : slotsS S 0 (packs (seq + 1) l) = A at hB hn1
  rw [show slotsS S ((0 : Nat) : Int) (packs (seq + 1) l) = A from hA] at hsd
  by_cases h0' : ¬ A.1 = 0
  · have h0 := h0'
    have e : thenS A DS.fl = A := by unfold thenS; rw [if_neg h0]
    rw [e, if_pos h0]
    exact ⟨hn1, .inl ⟨h0, hB⟩⟩
  have h0 : A.1 = 0 := Classical.not_not.1 h0'
  obtain ⟨e1, _, e2⟩ := hsd h0
  have e : thenS A DS.fl = (A.2.flushE, A.2.flush) := by unfold thenS; rw [if_pos h0]; rfl
  rw [e]
  have hf0 : A.2.flushE = 0 := by unfold DS.flushE; rw [if_neg (by simp [e2])]
  obtain ⟨_, e3⟩ := flush_done hf0
  rw [if_neg (fun h' => h' hf0)]
  have hB2 : Both f (SlotW (packs (seq + 1) l)) A.2.flush := hB.flush
  have hn2 : A.2.flush.n = S.n := (P_flush _).trans hn1
  have hl2 : A.2.flush.last = putSl f 0 (packs (seq + 1) l) := by rw [e3]; show A.2.last = _; rw [e1, hR.last]
  have hu2 : A.2.flush.down = false := by rw [e3]; exact e2
  generalize A.2.flush = S2 at hB2 hn2 hl2 hu2
  have hfew := h.few
  have h4 := (pagesOf_nn n).2.2
  have h5 := h.seq0
  have h6 := h.seq1
  have hr : secR l.length (seq + 1) = true := decide_eq_true ⟨by omega, by omega, by omega, by omega⟩
  have hpk : (packR l.length (seq + 1) zpage).1 = secL l.length (seq + 1) zpage := by unfold packR; rw [if_pos ⟨hr, zpage_ok.1⟩]
  have hmk : markS S2 l.length (seq + 1) = thenS (S2.wr 0 (secL l.length (seq + 1) zpage)) DS.fl := by unfold markS; rw [hpk]
  rw [hmk]
  by_cases hm0' : ¬ (S2.wr 0 (secL l.length (seq + 1) zpage)).1 = 0
  · have hm0 := hm0'
    have e : thenS (S2.wr 0 (secL l.length (seq + 1) zpage)) DS.fl = S2.wr 0 (secL l.length (seq + 1) zpage) := by unfold thenS; rw [if_neg hm0]
    rw [e, if_pos hm0]
    refine ⟨(P_write S2 _ _).trans hn2, .inl ⟨hm0, ?_⟩⟩
    have hE : S2.writeE 0 (secL l.length (seq + 1) zpage) ≠ 0 := hm0
    show Both f _ (S2.write 0 (secL l.length (seq + 1) zpage))
    unfold DS.write
    split
    · exact hB2
    rename_i g1
    split
    · exact hB2
    rename_i g2
    split
    · exact hB2
    rename_i g3
    unfold DS.writeE at hE
    rw [if_neg g1, if_neg g2, if_neg g3] at hE
    exact absurd rfl hE
  have hm0 : (S2.wr 0 (secL l.length (seq + 1) zpage)).1 = 0 := Classical.not_not.1 hm0'
  obtain ⟨_, e4⟩ := write_done (S := S2) (i := 0) (l := secL l.length (seq + 1) zpage) hm0
  have e5 : (S2.wr 0 (secL l.length (seq + 1) zpage)).2 = S2.put 0 (secL l.length (seq + 1) zpage) := e4
  have e : thenS (S2.wr 0 (secL l.length (seq + 1) zpage)) DS.fl = (S2.put 0 (secL l.length (seq + 1) zpage)).fl := by unfold thenS; rw [if_pos hm0, e5]
  rw [e]
  have hu3 : (S2.put 0 (secL l.length (seq + 1) zpage)).down = false := hu2
  have hf3 : (S2.put 0 (secL l.length (seq + 1) zpage)).flushE = 0 := by unfold DS.flushE; rw [if_neg (by simp [hu3])]
  obtain ⟨_, e6⟩ := flush_done hf3
  have hl3 : (S2.put 0 (secL l.length (seq + 1) zpage)).last = marked f seq l := by
    show putF S2.last 0 _ = _
    rw [hl2]
    rfl
  rw [if_neg (fun h' => h' hf3)]
  have e7 : (S2.put 0 (secL l.length (seq + 1) zpage)).fl.2 = (S2.put 0 (secL l.length (seq + 1) zpage)).flush := rfl
  rw [e7]
  have hR4 : Rests (S2.put 0 (secL l.length (seq + 1) zpage)).flush (marked f seq l) := by
    rw [e6]
    exact ⟨hl3, hl3, hu3⟩
  have hn4 : (S2.put 0 (secL l.length (seq + 1) zpage)).flush.n = S.n := (P_flush _).trans hn2
  generalize (S2.put 0 (secL l.length (seq + 1) zpage)).flush = S4 at hR4 hn4
  have hP4 : S4.P = pagesOf n := by unfold DS.P; rw [hn4, hn]
  refine ⟨(P_homes _ _).trans hn4, .inr ⟨Both.homes _ (hR4.both _) fun x hx => ⟨x, hx, by rw [hP4], rfl⟩, fun hz => ?_⟩⟩
  obtain ⟨h8, _⟩ := homes_done (packs (seq + 1) l) hz
  rw [hn4, hR4.last, ← hn] at h8
  exact h8

/-- What Open leaves, wherever the disk goes down in it. -/
theorem open_leaves (hn : n = S.n) (hR : Rests S g) (hm : (unpackR (g 0)).2.2.2 = 0) (kept : List Int) : ∃ g', Rests ((openS S).2.2.crash kept) g' ∧ g' 0 = g 0 ∧ opened n g' = opened n g ∧ ((openS S).2.2.crash kept).n = S.n := by
  have hl : S.last = g := hR.last
  have hnn := (pagesOf_nn n).1
  unfold openS
  rw [if_neg (by simp [hR.up]), hl, if_neg (fun h' => h' hm), ← hn]
  rcases h : listed n g with _ | l
  · rw [show slotsOf n g (unpackR (g 0)).1 (unpackR (g 0)).2.1 = none from h]
    obtain ⟨h1, h2⟩ := (hR.both (fun _ _ => False)).crash kept
    have e : (S.crash kept).last = g := by
      funext i
      rcases h1 i with e | e
      · exact e
      · exact e.elim
    rw [e] at h2
    exact ⟨g, h2, rfl, rfl, rfl⟩
  · rw [show slotsOf n g (unpackR (g 0)).1 (unpackR (g 0)).2.1 = some l from h]
    have hP : S.P = pagesOf n := by unfold DS.P; rw [hn]
    have hB : Both g (HomeW n l) (homesS S l).2 := Both.homes l (hR.both _) fun x hx => ⟨x, hx, by rw [hP], rfl⟩
    obtain ⟨h1, h2⟩ := hB.crash kept
    have h3 : ((homesS S l).2.crash kept).n = S.n := P_homes l S
    have h4 : ((homesS S l).2.crash kept).last 0 = g 0 := homeW_far (fun x hx => (listed_mem h x hx).1.1) h1 hnn (by omega)
    have h5 := (opened_part hnn h h1).2
    simp only []
    split
    · exact ⟨_, h2, h4, h5, h3⟩
    · exact ⟨_, h2, h4, h5, h3⟩

/-- What Open leaves where the disk stays up. -/
theorem open_free (hn : n = S.n) (hok : 3 ≤ n) (hF : Free S) (hR : Rests S g) (hm : (unpackR (g 0)).2.2.2 = 0) : (openS S).1 = 0 ∧ (openS S).2.1 = (unpackR (g 0)).2.1 ∧ Rests (openS S).2.2 (opened n g) ∧ Free (openS S).2.2 ∧ (openS S).2.2.n = S.n := by
  have hl : S.last = g := hR.last
  have hnn := pagesOf_nn n
  unfold openS
  rw [if_neg (by simp [hR.up]), hl, if_neg (fun h' => h' hm), ← hn]
  rcases h : listed n g with _ | l
  · rw [show slotsOf n g (unpackR (g 0)).1 (unpackR (g 0)).2.1 = none from h, opened_none h]
    exact ⟨rfl, rfl, hR, hF, rfl⟩
  · rw [show slotsOf n g (unpackR (g 0)).1 (unpackR (g 0)).2.1 = some l from h, opened_some h]
    have hP : S.P = pagesOf n := by unfold DS.P; rw [hn]
    obtain ⟨h1, h2⟩ := hF.homes l fun x hx => by
      obtain ⟨⟨a, b⟩, c⟩ := listed_mem h x hx
      have := hnn.2.1 hok
      exact ⟨⟨by rw [hP]; omega, by rw [hP, ← hn]; omega⟩, c⟩
    obtain ⟨h3, h4⟩ := homes_done l h1
    simp only []
    rw [if_neg (fun h' => h' h1)]
    rw [← hn, hl] at h3
    exact ⟨rfl, rfl, h3, h2, h4⟩
theorem load_rests (hn : n = S.n) (hR : Rests S g) {p : Int} (hp : 0 ≤ p ∧ p < pagesOf n) : loadS S p = (pageIn n g p, 0) := by
  have hP : S.P = pagesOf n := by unfold DS.P; rw [hn]
  unfold loadS pageIn
  rw [hP, hR.last, if_neg (by omega), if_neg (by simp [hR.up])]
  split <;> rfl
end

end Go.Proofs.YtkpmfobmlaldfaaDoor

/-
  Contracts of the plain answers of layout: for any numbers they answer how many pages there are and where they stand; nothing is written. No condition.
-/
namespace Go.Proofs.YtkpmfobmlaldfaaDoor
open Go.RowKit
set_option maxRecDepth 100000
set_option linter.unusedVariables false

set_option maxHeartbeats 800000 in
theorem refPages_any (n : Int) (w : World) (hn : -9223372036854775808 ≤ n ∧ n ≤ 9223372036854775807) : Calls Tryd.prog 72 #[.int .i64 n] w fun e w' => e = .returned (.int .i64 (pagesOf n)) ∧ w = w' := by
  unfold pagesOf
  by_cases h1 : n < 3
  · rw [if_pos (.inl h1)]
    have k1 : decide (n < 3) = true := by simpa using h1
    clear h1
    go_enter Tryd.func72, Tryd.ntmps72
    go_wp2; go_ret; exact ⟨rfl, rfl⟩
  by_cases h2 : 65536 < n
  · rw [if_pos (.inr h2)]
    have k1 : decide (n < 3) = false := by simpa using h1
    have k2 : decide (65536 < n) = true := by simpa using h2
    clear h1 h2
    go_enter Tryd.func72, Tryd.ntmps72
    go_wp2; go_ret; exact ⟨rfl, rfl⟩
  · rw [if_neg (by omega)]
    have k1 : decide (n < 3) = false := by simpa using h1
    have k2 : decide (65536 < n) = false := by simpa using h2
    go_enter Tryd.func72, Tryd.ntmps72
    go_wp2; go_ret
    exact ⟨rfl, rfl⟩

set_option maxHeartbeats 800000 in
theorem refSlot_any (n i : Int) (w : World) (hn : -9223372036854775808 ≤ n ∧ n ≤ 9223372036854775807) : Calls Tryd.prog 73 #[.int .i64 n, .int .i64 i] w fun e w' => e = .returned (.tuple #[.int .i64 (slotOf n i).1, .bool (slotOf n i).2]) ∧ w = w' := by
  have hp := pagesOf_bounds n
  have HP := Lib.hid (refPages_any n w hn)
  unfold slotOf
  by_cases h1 : i < 0
  · rw [if_pos (.inl h1)]
    have k1 : decide (i < 0) = true := by simpa using h1
    clear h1
    go_enter Tryd.func73, Tryd.ntmps73
    go_wp2_with (go_at_call 72; refine HP.out.mono ?_; rintro e w1 ⟨rfl, rfl⟩)
    go_ret2; exact ⟨rfl, rfl⟩
  have k1 : decide (i < 0) = false := by simpa using h1
  by_cases h2 : pagesOf n ≤ i
  · rw [if_pos (.inr h2)]
    have k2 : decide (pagesOf n ≤ i) = true := by simpa using h2
    clear h1 h2
    go_enter Tryd.func73, Tryd.ntmps73
    go_wp2_with (go_at_call 72; refine HP.out.mono ?_; rintro e w1 ⟨rfl, rfl⟩)
    go_ret2; exact ⟨rfl, rfl⟩
  · rw [if_neg (by omega)]
    have k2 : decide (pagesOf n ≤ i) = false := by simpa using h2
    go_enter Tryd.func73, Tryd.ntmps73
    go_wp2_with (go_at_call 72; refine HP.out.mono ?_; rintro e w1 ⟨rfl, rfl⟩)
    go_ret2; exact ⟨rfl, rfl⟩

set_option maxHeartbeats 800000 in
theorem refHome_any (n i : Int) (w : World) (hn : -9223372036854775808 ≤ n ∧ n ≤ 9223372036854775807) : Calls Tryd.prog 74 #[.int .i64 n, .int .i64 i] w fun e w' => e = .returned (.tuple #[.int .i64 (homeOf n i).1, .bool (homeOf n i).2]) ∧ w = w' := by
  have hp := pagesOf_bounds n
  have HP := Lib.hid (refPages_any n w hn)
  unfold homeOf
  by_cases h1 : i < 0
  · rw [if_pos (.inl h1)]
    have k1 : decide (i < 0) = true := by simpa using h1
    clear h1
    go_enter Tryd.func74, Tryd.ntmps74
    go_wp2_with (go_at_call 72; refine HP.out.mono ?_; rintro e w1 ⟨rfl, rfl⟩)
    go_ret2; exact ⟨rfl, rfl⟩
  have k1 : decide (i < 0) = false := by simpa using h1
  by_cases h2 : pagesOf n ≤ i
  · rw [if_pos (.inr h2)]
    have k2 : decide (pagesOf n ≤ i) = true := by simpa using h2
    clear h1 h2
    go_enter Tryd.func74, Tryd.ntmps74
    go_wp2_with (go_at_call 72; refine HP.out.mono ?_; rintro e w1 ⟨rfl, rfl⟩)
    go_ret2; exact ⟨rfl, rfl⟩
  · rw [if_neg (by omega)]
    have k2 : decide (pagesOf n ≤ i) = false := by simpa using h2
    generalize pagesOf n = P at *
    go_enter Tryd.func74, Tryd.ntmps74
    go_wp2_with (go_at_call 72; refine HP.out.mono ?_; rintro e w1 ⟨rfl, rfl⟩)
    go_ret2; exact ⟨rfl, rfl⟩

end Go.Proofs.YtkpmfobmlaldfaaDoor

/-
  The plain disk of the statements as it lies in memory, and which disk that is. Plain facts; no condition beyond what each says.
-/
namespace Go.Proofs.YtkpmfobmlaldfaaDoor
open Go.RowKit
set_option maxRecDepth 100000
set_option linter.unusedVariables false

/-- The how many-th a sector was that was written first since, or 0. -/
def turnOf (l : List Nat) (i : Nat) : Nat := if i ∈ l then l.idxOf i + 1 else 0
theorem turnOf_no {l : List Nat} {i : Nat} (h : i ∉ l) : turnOf l i = 0 := if_neg h
theorem turnOf_pos {l : List Nat} {i : Nat} : 0 < turnOf l i ↔ i ∈ l := by
  unfold turnOf
  by_cases h : i ∈ l <;> simp [h]
theorem turnOf_le (l : List Nat) (i : Nat) : turnOf l i ≤ l.length := by
  unfold turnOf
  split
  · rename_i h; exact List.idxOf_lt_length_of_mem h
  · exact Nat.zero_le _
theorem turnOf_add {l : List Nat} {i : Nat} (hi : i ∉ l) (j : Nat) : turnOf (l ++ [i]) j = if j = i then l.length + 1 else turnOf l j := by
  unfold turnOf
  by_cases e : j = i
  · subst e
    rw [if_pos (by simp), if_pos rfl, List.idxOf_append, if_neg hi]
    simp
  · rw [if_neg e]
    by_cases h : j ∈ l
    · rw [if_pos (by simp [h]), if_pos h, List.idxOf_append, if_pos h]
    · rw [if_neg (by simp [h, e]), if_neg h]
theorem turnOf_get {l : List Nat} (hnd : l.Nodup) (t i : Nat) : l[t]? = some i ↔ turnOf l i = t + 1 := by
  unfold turnOf
  constructor
  · intro h
    obtain ⟨ht, e⟩ := List.getElem?_eq_some_iff.1 h
    have hm : i ∈ l := by rw [← e]; exact List.getElem_mem ht
    rw [if_pos hm]
    have h1 : l.idxOf i < l.length := List.idxOf_lt_length_of_mem hm
    have h2 : l[l.idxOf i] = i := List.getElem_idxOf h1
    have := (List.getElem_inj (h₀ := h1) (h₁ := ht) hnd).1 (h2.trans e.symm)
    omega
  · intro h
    by_cases hm : i ∈ l
    · rw [if_pos hm] at h
      have h1 : l.idxOf i < l.length := List.idxOf_lt_length_of_mem hm
      have e : t = l.idxOf i := by omega
      subst e
      rw [List.getElem?_eq_getElem h1, List.getElem_idxOf h1]
    · rw [if_neg hm] at h; omega

theorem DS.Ok.pend_len {S : DS} (h : S.Ok) : S.pend.length ≤ S.n := nodup_lt S.n S.pend h.pendNodup h.pendLt

/-- A sector's bytes behind a value: none (noughts), or 256 of a block of G's own. -/
def SecV (w : World) (G : Nat → Prop) (gx gl : Nat) (v : Value) (l : List Int) : Prop :=
  (v = .slice none 0 0 ∧ l = nought) ∨ ∃ (b off c : Nat), v = .slice (some ⟨b, off, none⟩) 256 c ∧ 256 ≤ c ∧ G b ∧ b ≠ gx ∧ b ≠ gl ∧ ∀ j, j < 256 → w.cell? ⟨b, off + j, none⟩ = some (.int .u8 (l[j]?.getD 0))

theorem SecV.keep {w w' : World} {G G' : Nat → Prop} {gx gl : Nat} {v : Value} {l : List Int} (h : SecV w G gx gl v l) (hG : ∀ k, G k → G' k) (hk : ∀ b o, G b → b ≠ gx → b ≠ gl → w'.cell? ⟨b, o, none⟩ = w.cell? ⟨b, o, none⟩) : SecV w' G' gx gl v l := by
  rcases h with h | ⟨b, off, c, e, hc, hb, h1, h2, hcell⟩
  · exact .inl h
  · exact .inr ⟨b, off, c, e, hc, hG b hb, h1, h2, fun j hj => (hk b _ hb h1 h2).trans (hcell j hj)⟩
theorem SecV.shape {w : World} {G : Nat → Prop} {gx gl : Nat} {v : Value} {l : List Int} (h : SecV w G gx gl v l) : ∃ A n c, v = .slice A n c := by
  rcases h with ⟨e, _⟩ | ⟨b, off, c, e, _⟩
  · exact ⟨_, _, _, e⟩
  · exact ⟨_, _, _, e⟩

/-- The plain disk in memory: its head at gx, its sectors at gl. -/
def Ref0 (w : World) (G : Nat → Prop) (gx gl : Nat) (hd : Nat → Value) (n : Nat) (sf lf : Nat → List Int) (tf : Nat → Nat) : Prop :=
  gx ≠ gl ∧ G gx ∧ G gl ∧ w.rowIs gx 94 6 hd ∧ ∃ f, w.rowIs gl 115 (n * 3) f ∧ (∀ i, i < n → SecV w G gx gl (f (i * 3)) (sf i) ∧ SecV w G gx gl (f (i * 3 + 1)) (lf i) ∧ f (i * 3 + 2) = .int .i64 (tf i)) ∧ ∀ k, G k → k < w.heap.size

def refHead (gl : Nat) (S : DS) : Nat → Value
  | 0 => .slice (some ⟨gl, 0, none⟩) S.n S.n
  | 1 => .int .i64 S.pend.length
  | 2 => .int .i64 S.writes
  | 3 => .int .i64 (S.arm.getD 0 : Nat)
  | 4 => .bool S.arm.isSome
  | _ => .bool S.down

/-- In w the plain disk S lies at x, in the blocks of G. -/
def RefAt (w : World) (G : Nat → Prop) (x : Addr) (S : DS) : Prop :=
  ∃ gx gl, x = ⟨gx, 0, none⟩ ∧ Ref0 w G gx gl (refHead gl S) S.n S.safe S.last (turnOf S.pend) ∧ S.Ok ∧ S.arm.getD 0 ≤ 9223372036854775807

section
variable {w w' : World} {G : Nat → Prop} {gx gl n : Nat} {hd : Nat → Value} {sf lf : Nat → List Int} {tf : Nat → Nat}

theorem Ref0.keep (h : Ref0 w G gx gl hd n sf lf tf) (hk : ∀ k, G k → w'.heap[k]? = w.heap[k]?) : Ref0 w' G gx gl hd n sf lf tf := by
  obtain ⟨h1, h2, h3, h4, f, h5, h6, h7⟩ := h
  refine ⟨h1, h2, h3, h4.of_block (hk _ h2), f, h5.of_block (hk _ h3), fun i hi => ?_, fun k hg => ?_⟩
  · obtain ⟨a, b, c⟩ := h6 i hi
    have hc : ∀ b o, G b → b ≠ gx → b ≠ gl → w'.cell? ⟨b, o, none⟩ = w.cell? ⟨b, o, none⟩ := fun b o hb _ _ => World.cell?_of_block (w := w) (hk b hb)
    exact ⟨a.keep (fun _ h => h) hc, b.keep (fun _ h => h) hc, c⟩
  · have hlt := h7 k hg
    rcases Nat.lt_or_ge k w'.heap.size with h | h
    · exact h
    · have := hk k hg
      rw [Array.getElem?_eq_none h, Array.getElem?_eq_getElem hlt] at this
      cases this
theorem Ref0.lt (h : Ref0 w G gx gl hd n sf lf tf) : ∀ k, G k → k < w.heap.size := by
  obtain ⟨_, _, _, _, f, _, _, h7⟩ := h
  exact h7
theorem RefAt.keep {x : Addr} {S : DS} (h : RefAt w G x S) (hk : ∀ k, G k → w'.heap[k]? = w.heap[k]?) : RefAt w' G x S := by
  obtain ⟨gx, gl, e, h0, hok, ha⟩ := h
  exact ⟨gx, gl, e, h0.keep hk, hok, ha⟩
theorem RefAt.lt {x : Addr} {S : DS} (h : RefAt w G x S) : ∀ k, G k → k < w.heap.size := by
  obtain ⟨gx, gl, e, h0, hok, ha⟩ := h
  exact h0.lt

/-- A store into the head. -/
theorem Ref0.head (h : Ref0 w G gx gl hd n sf lf tf) (o : Nat) (v : Value) : Ref0 (w.setCell ⟨gx, o, none⟩ v) G gx gl (fun j => if j = o then v else hd j) n sf lf tf := by
  obtain ⟨h1, h2, h3, h4, f, h5, h6, h7⟩ := h
  refine ⟨h1, h2, h3, h4.set o v, f, h5.setOther (a := ⟨gx, o, none⟩) (fun e => h1 e.symm) v, fun i hi => ?_, fun k hg => by simpa using h7 k hg⟩
  obtain ⟨a, b, c⟩ := h6 i hi
  have hc : ∀ b o', G b → b ≠ gx → b ≠ gl → (w.setCell ⟨gx, o, none⟩ v).cell? ⟨b, o', none⟩ = w.cell? ⟨b, o', none⟩ := fun b o' _ hb _ => World.cell?_of_block (w := w) (Below.heap_setCell w ⟨gx, o, none⟩ v b hb)
  exact ⟨a.keep (fun _ h => h) hc, b.keep (fun _ h => h) hc, c⟩
theorem Ref0.congrHead (h : Ref0 w G gx gl hd n sf lf tf) {hd' : Nat → Value} (e : ∀ i, i < 6 → hd i = hd' i) : Ref0 w G gx gl hd' n sf lf tf := by
  obtain ⟨h1, h2, h3, h4, rest⟩ := h
  exact ⟨h1, h2, h3, h4.congr e, rest⟩
theorem Ref0.congr (h : Ref0 w G gx gl hd n sf lf tf) {sf' lf' : Nat → List Int} {tf' : Nat → Nat} (e : ∀ i, i < n → sf i = sf' i ∧ lf i = lf' i ∧ tf i = tf' i) : Ref0 w G gx gl hd n sf' lf' tf' := by
  obtain ⟨h1, h2, h3, h4, f, h5, h6, h7⟩ := h
  refine ⟨h1, h2, h3, h4, f, h5, fun i hi => ?_, h7⟩
  obtain ⟨e1, e2, e3⟩ := e i hi
  rw [← e1, ← e2, ← e3]
  exact h6 i hi

theorem Ref0.store (h : Ref0 w G gx gl hd n sf lf tf) {q : Nat} (hq : q < n * 3) (v : Value) {sf' lf' : Nat → List Int} {tf' : Nat → Nat}
    (hs : ∀ i, i < n → i * 3 ≠ q → sf' i = sf i) (hl : ∀ i, i < n → i * 3 + 1 ≠ q → lf' i = lf i) (ht : ∀ i, i < n → i * 3 + 2 ≠ q → tf' i = tf i)
    (hs' : ∀ i, i < n → i * 3 = q → SecV w G gx gl v (sf' i)) (hl' : ∀ i, i < n → i * 3 + 1 = q → SecV w G gx gl v (lf' i)) (ht' : ∀ i, i < n → i * 3 + 2 = q → v = .int .i64 (tf' i)) :
    Ref0 (w.setCell ⟨gl, q, none⟩ v) G gx gl hd n sf' lf' tf' := by
  obtain ⟨h1, h2, h3, h4, f, h5, h6, h7⟩ := h
  have hc : ∀ b o', G b → b ≠ gx → b ≠ gl → (w.setCell ⟨gl, q, none⟩ v).cell? ⟨b, o', none⟩ = w.cell? ⟨b, o', none⟩ := fun b o' _ _ hb => World.cell?_of_block (w := w) (Below.heap_setCell w ⟨gl, q, none⟩ v b hb)
  refine ⟨h1, h2, h3, h4.setOther (a := ⟨gl, q, none⟩) h1 v, _, h5.set q v, fun i hi => ?_, fun k hg => by simpa using h7 k hg⟩
  obtain ⟨a, b, c⟩ := h6 i hi
  refine ⟨?_, ?_, ?_⟩
  · by_cases e : i * 3 = q
    · rw [if_pos e]; exact (hs' i hi e).keep (fun _ h => h) hc
    · rw [if_neg e, hs i hi e]; exact a.keep (fun _ h => h) hc
  · by_cases e : i * 3 + 1 = q
    · rw [if_pos e]; exact (hl' i hi e).keep (fun _ h => h) hc
    · rw [if_neg e, hl i hi e]; exact b.keep (fun _ h => h) hc
  · by_cases e : i * 3 + 2 = q
    · rw [if_pos e]; exact ht' i hi e
    · rw [if_neg e, ht i hi e]; exact c

theorem Ref0.setSafe (h : Ref0 w G gx gl hd n sf lf tf) {i : Nat} (hi : i < n) {v : Value} {l : List Int} (hv : SecV w G gx gl v l) : Ref0 (w.setCell ⟨gl, i * 3, none⟩ v) G gx gl hd n (fun k => if k = i then l else sf k) lf tf := by
  refine h.store (by omega) v (fun k _ hk => if_neg (by omega)) (fun k _ _ => rfl) (fun k _ _ => rfl) (fun k _ hk => ?_) (fun k _ hk => by omega) (fun k _ hk => by omega)
  rw [if_pos (by omega)]; exact hv
theorem Ref0.setLast (h : Ref0 w G gx gl hd n sf lf tf) {i : Nat} (hi : i < n) {v : Value} {l : List Int} (hv : SecV w G gx gl v l) : Ref0 (w.setCell ⟨gl, i * 3 + 1, none⟩ v) G gx gl hd n sf (fun k => if k = i then l else lf k) tf := by
  refine h.store (by omega) v (fun k _ _ => rfl) (fun k _ hk => if_neg (by omega)) (fun k _ _ => rfl) (fun k _ hk => by omega) (fun k _ hk => ?_) (fun k _ hk => by omega)
  rw [if_pos (by omega)]; exact hv
theorem Ref0.setTurn (h : Ref0 w G gx gl hd n sf lf tf) {i : Nat} (hi : i < n) (t : Nat) : Ref0 (w.setCell ⟨gl, i * 3 + 2, none⟩ (.int .i64 t)) G gx gl hd n sf lf (fun k => if k = i then t else tf k) := by
  refine h.store (by omega) _ (fun k _ _ => rfl) (fun k _ _ => rfl) (fun k _ hk => if_neg (by omega)) (fun k _ hk => by omega) (fun k _ hk => by omega) (fun k _ hk => ?_)
  rw [if_pos (by omega)]

/-- A new block for a sector's bytes. -/
theorem Ref0.grow (h : Ref0 w G gx gl hd n sf lf tf) (hb : Below w.heap.size w w') {G' : Nat → Prop} (hG : ∀ k, G k → G' k) (hG' : ∀ k, G' k → k < w'.heap.size) : Ref0 w' G' gx gl hd n sf lf tf := by
  have hlt := h.lt
  obtain ⟨h1, h2, h3, h4, f, h5, h6, h7⟩ := h
  refine ⟨h1, hG _ h2, hG _ h3, h4.of_block (hb.block _ (hlt _ h2)), f, h5.of_block (hb.block _ (hlt _ h3)), fun i hi => ?_, hG'⟩
  obtain ⟨a, b, c⟩ := h6 i hi
  have hc : ∀ b o, G b → b ≠ gx → b ≠ gl → w'.cell? ⟨b, o, none⟩ = w.cell? ⟨b, o, none⟩ := fun b o hb' _ _ => World.cell?_of_block (w := w) (hb.block _ (hlt _ hb'))
  exact ⟨a.keep hG hc, b.keep hG hc, c⟩
end

end Go.Proofs.YtkpmfobmlaldfaaDoor

/-
  The plain disk's calls by contract: New, Read, Fuse. No condition beyond the numbers' bounds.
-/
namespace Go.Proofs.YtkpmfobmlaldfaaDoor
open Go.RowKit
set_option maxRecDepth 100000
set_option linter.unusedVariables false

theorem infoU8 : (Tryd.prog.info? 5).map (fun i => (i.zero, i.size, i.bytes)) = some (some (.int .u8 0), 1, 1) := by kernel_rfl

/-- A row of n noughts of the call's own. -/
def Blank (w : World) (g N : Nat) (cur : List Value) : Prop := w.heap[g]? = some (.cells cur.toArray 5 (0, 0)) ∧ cur = List.replicate N (Value.int .u8 0)
theorem blank_new (w : World) (N : Nat) : Blank (w.alloc (.cells (madeCells #[.int .u8 0] N) 5)) w.heap.size N (madeCells #[.int .u8 0] N).toList := by
  refine ⟨by simpa using heap_alloc_new w _, ?_⟩
  apply List.ext_getElem?
  intro i
  by_cases hi : i < N
  · simp [madeCells, hi, Nat.mod_one]
  · simp [madeCells, hi]
theorem blank_get {w : World} {g N n : Nat} {cur : List Value} {l : List Int} (hcur : cur = List.replicate N (Value.int .u8 0)) (hl : l.length = n) (hn : n ≤ N)
    (hh : w.heap[g]? = some (.cells (splice cur 0 (l.map (Value.int .u8))).toArray 5 (0, 0))) (j : Nat) (hj : j < N) : w.cell? ⟨g, j, none⟩ = some (.int .u8 (l[j]?.getD 0)) := by
  subst hcur
  rw [cell_of_row w g j _ _ _ hh]
  by_cases h : j < n
  · simp [splice, List.getElem?_append, hl, h]
  · have e1 : l[j]? = none := List.getElem?_eq_none (by omega)
    rw [e1]
    have hj2 : j - n < N - n := by omega
    simp [splice, List.getElem?_append, hl, h, hj2]
theorem blank_read {w : World} {g : Nat} {cur : List Value} {l m : List Int} {n : Nat} (hcur : cur = List.replicate 256 (Value.int .u8 0)) (hl : l.length = n) (hb : AllBytes l) (h : (n = 0 ∧ m = nought) ∨ (n = 256 ∧ l = m))
    (hh : w.heap[g]? = some (.cells (splice cur 0 (l.map (Value.int .u8))).toArray 5 (0, 0))) : RB w w.heap.size (some ⟨g, 0, none⟩) 256 m := by
  have hlt : g < w.heap.size := by
    rcases Nat.lt_or_ge g w.heap.size with h' | h'
    · exact h'
    · rw [Array.getElem?_eq_none h'] at hh; cases hh
  have hget := blank_get hcur hl (by omega) hh
  have hm : m.length = 256 ∧ AllBytes m := by
    rcases h with ⟨rfl, rfl⟩ | ⟨rfl, rfl⟩
    · exact nought_ok
    · exact ⟨hl, hb⟩
  refine ⟨hm.1, hm.2, fun _ => ⟨g, 0, rfl, hlt, fun j hj => ?_⟩⟩
  rw [Nat.zero_add, hget j hj]
  rcases h with ⟨rfl, rfl⟩ | ⟨rfl, rfl⟩
  · obtain rfl : l = [] := List.eq_nil_of_length_eq_zero hl
    have : nought[j]?.getD 0 = 0 := reps_getD (n := 256) (c := 0) hj
    rw [this]; rfl
  · rfl

set_option maxHeartbeats 800000 in
theorem full_at {A : Option Addr} {n : Nat} (c : Nat) {B : Nat} {l m : List Int} {w : World} (hr : RB w B A n l) (hB : B ≤ w.heap.size) (h : (n = 0 ∧ m = nought) ∨ (n = 256 ∧ l = m)) :
    Calls Tryd.prog 69 #[.slice A n c] w fun e w' => e = .returned (.slice (some ⟨w.heap.size, 0, none⟩) 256 256) ∧ RB w' w'.heap.size (some ⟨w.heap.size, 0, none⟩) 256 m ∧ Below w.heap.size w w' := by
  have hmk : ∀ w : World, (Instr.makeSlice 69 (.int .i64 256) (.int .i64 256)).run Tryd.prog w = .ok (.slice (some ⟨w.heap.size, 0, none⟩) 256 256) (w.alloc (.cells (madeCells #[.int .u8 0] 256) 5)) := fun w =>
    run_make_row' 69 5 (.int .u8 0) 1 Tryd.underlying69 infoU8 rfl .i64 .i64 256 (by decide) (by decide) w
  have hn : n ≤ 256 := by omega
  have hlen := hr.len
  have HBL := Lib.hid (blank_new w 256).1
  have HBL2 := Lib.hid (blank_new w 256).2
  have HR := Lib.hid (hr.alloc hB (.cells (madeCells #[.int .u8 0] 256) 5))
  have HSRC := Lib.hid (show 0 < (l.map (Value.int .u8)).length → ∃ ad, A = some ad ∧ ∀ j v, (l.map (Value.int .u8))[j]? = some v → (w.alloc (.cells (madeCells #[.int .u8 0] 256) 5)).cell? (ad.add j) = some v from fun hp => by
    rw [List.length_map, hlen] at hp
    obtain ⟨b, off, e, _⟩ := hr.at_ hp
    subst e
    refine ⟨_, rfl, fun j v hj => ?_⟩
    obtain ⟨ad, e, hc⟩ := HR.out.src j v hj
    cases e
    exact hc)
  have HB1 := Lib.hid ((Below.refl w.heap.size w).alloc (Nat.le_refl _) (.cells (madeCells #[.int .u8 0] 256) 5))
  have hmin : (l.map (Value.int .u8)).length = Nat.min n 256 := by rw [List.length_map, hlen]; exact (Nat.min_eq_left hn).symm
  have hfit : 0 + (l.map (Value.int .u8)).length ≤ (madeCells #[Value.int .u8 0] 256).toList.length := by rw [List.length_map, hlen, Array.length_toList, size_madeCells]; omega
  go_enter Tryd.func69, Tryd.ntmps69
  generalize madeCells #[Value.int .u8 0] 256 = mc at hmk HBL HBL2 HR HB1 hfit HSRC
  go_wp2_with (with_reducible refine wpList_copy_splice rfl (.tmp 5) (.tmp 6) 69 69 rfl 5 Tryd.underlying69 size_u8' _ _ _ _ _ _ rfl rfl w.heap.size 0 mc.toList 5 HBL.out (l.map (Value.int .u8)) hmin (fun hp => ⟨rfl, HSRC.out hp⟩) hfit (oneCell_bytes l) w.heap.size w HB1.out (Nat.le_refl _) ?_; intro w2 hblk2 hb2)
  have HE := Lib.hid (blank_read HBL2.out hlen hr.bytes h hblk2.out)
  clear HBL HBL2 HR HB1 HSRC hblk2 hmk
  go_ret
  exact ⟨rfl, HE.out, hb2⟩
theorem full_any {A : Option Addr} {n : Nat} (c : Nat) {B : Nat} {l m : List Int} {w : World} (hr : RB w B A n l) (hB : B ≤ w.heap.size) (h : (n = 0 ∧ m = nought) ∨ (n = 256 ∧ l = m)) :
    Calls Tryd.prog 69 #[.slice A n c] w fun e w' => ∃ g, e = .returned (.slice (some ⟨g, 0, none⟩) 256 256) ∧ RB w' w'.heap.size (some ⟨g, 0, none⟩) 256 m ∧ Below w.heap.size w w' := by
  refine (full_at c hr hB h).mono ?_
  rintro e w' ⟨rfl, h1, h2⟩
  exact ⟨_, rfl, h1, h2⟩

section
variable {w : World} {G : Nat → Prop} {x : Addr} {S : DS}

/-- What a sector's value reads as, for full. -/
theorem SecV.read {gx gl : Nat} {v : Value} {l : List Int} (hl : l.length = 256 ∧ AllBytes l) (h : SecV w G gx gl v l) (hG : ∀ k, G k → k < w.heap.size) : ∃ (A : Option Addr) (n c : Nat) (l' : List Int), v = .slice A n c ∧ n ≤ c ∧ RB w w.heap.size A n l' ∧ ((n = 0 ∧ l = nought) ∨ (n = 256 ∧ l' = l)) := by
  rcases h with ⟨e, hn⟩ | ⟨b, off, c, e, hc, hb, _, _, hcell⟩
  · exact ⟨none, 0, 0, [], e, Nat.le_refl _, RB.nil_, .inl ⟨rfl, hn⟩⟩
  · exact ⟨_, 256, c, l, e, hc, ⟨hl.1, hl.2, fun _ => ⟨b, off, rfl, hG b hb, hcell⟩⟩, .inr ⟨rfl, rfl⟩⟩

set_option maxHeartbeats 800000 in
/-- A sector that is there is read into a new block. -/
theorem refRead_at (h : RefAt w G x S) {q : Nat} (hq : q < S.n) (hd : S.down = false) : Calls Tryd.prog 41 #[.pointer (some x), .int .i64 (q : Int)] w fun e w' => ∃ g, e = .returned (.tuple #[.slice (some ⟨g, 0, none⟩) 256 256, .int .i64 0]) ∧ w.heap.size ≤ g ∧ RB w' w'.heap.size (some ⟨g, 0, none⟩) 256 (S.last q) ∧ Below w.heap.size w w' := by
  obtain ⟨gx, gl, rfl, h0, hok, _⟩ := h
  have hlt := h0.lt
  obtain ⟨h1, h2, h3, h4, f, h5, h6, h7⟩ := h0
  have c0 : w.cell? ⟨gx, 0, none⟩ = some (.slice (some ⟨gl, 0, none⟩) S.n S.n) := h4.cell (i := 0) (by decide)
  have c5 : w.cell? ⟨gx, 5, none⟩ = some (.bool S.down) := h4.cell (i := 5) (by decide)
  have hsz := hok.size
  rw [hd] at c5
  have hq' : (q : Int) < (S.n : Int) := by omega
  obtain ⟨A, n, c, l', hv, hnc, hr, hl'⟩ := (h6 q hq).2.1.read (hok.lastBytes q) hlt
  have z := h5.cell (i := q * 3 + 1) (by omega)
  rw [hv] at z
  have HR := Lib.hid hr
  have HL := Lib.hid hl'
  clear hd h4 h5 h6 h7 hok hr hl' hv
  go_enter Tryd.func41, Tryd.ntmps41
  go_wp2_with fail
  refine (full_at c HR.out (Nat.le_refl _) HL.out).mono ?_
  rintro e w' ⟨rfl, hg, hb⟩
  go_wp2
  go_ret2
  exact ⟨_, rfl, Nat.le_refl _, hg, hb⟩

set_option maxHeartbeats 800000 in
theorem refRead_any (h : RefAt w G x S) (i : Int) : Calls Tryd.prog 41 #[.pointer (some x), .int .i64 i] w fun e w' => ∃ (A : Option Addr) (n c : Nat), e = .returned (.tuple #[.slice A n c, .int .i64 (S.readE i)]) ∧ n ≤ c ∧ RB w' w'.heap.size A n (S.readL i) ∧ Below w.heap.size w w' := by
  obtain ⟨gx, gl, rfl, h0, hok, _⟩ := h
  have hlt := h0.lt
  obtain ⟨h1, h2, h3, h4, f, h5, h6, h7⟩ := h0
  have c0 : w.cell? ⟨gx, 0, none⟩ = some (.slice (some ⟨gl, 0, none⟩) S.n S.n) := h4.cell (i := 0) (by decide)
  have c5 : w.cell? ⟨gx, 5, none⟩ = some (.bool S.down) := h4.cell (i := 5) (by decide)
  have hsz := hok.size
  by_cases hd : S.down = true
  · have hre : S.readE i = 5 := by unfold DS.readE; rw [if_pos hd]
    have hrl : S.readL i = [] := by unfold DS.readL; rw [if_neg (by rw [hre]; decide)]
    rw [hre, hrl]
    rw [hd] at c5
    clear hre hrl hd h4 h5 h6 h7 hok
    go_enter Tryd.func41, Tryd.ntmps41
    go_wp2
    go_ret2
    exact ⟨none, 0, 0, rfl, Nat.le_refl _, RB.nil_, Below.refl _ _⟩
  · have hd' : S.down = false := by simpa using hd
    rw [hd'] at c5
    by_cases hh : S.has i
    · have hre : S.readE i = 0 := by unfold DS.readE; rw [if_neg hd, if_pos hh]
      have hrl : S.readL i = S.last i.toNat := by unfold DS.readL; rw [if_pos hre]
      rw [hre, hrl]
      obtain ⟨q, rfl⟩ : ∃ q : Nat, i = q := Int.eq_ofNat_of_zero_le hh.1
      have hq : q < S.n := by have := hh.2; omega
      have hq' : (q : Int) < (S.n : Int) := by omega
      rw [Int.toNat_natCast]
      obtain ⟨A, n, c, l', hv, hnc, hr, hl'⟩ := (h6 q hq).2.1.read (hok.lastBytes q) hlt
      have z := h5.cell (i := q * 3 + 1) (by omega)
      rw [hv] at z
      have HR := Lib.hid hr
      have HL := Lib.hid hl'
      clear hre hrl hd hd' hh h4 h5 h6 h7 hok hr hl' hv
      go_enter Tryd.func41, Tryd.ntmps41
      go_wp2_with fail
      refine (full_any c HR.out (Nat.le_refl _) HL.out).mono ?_
      rintro e w' ⟨g, rfl, hg, hb⟩
      go_wp2
      go_ret2
      exact ⟨_, 256, 256, rfl, Nat.le_refl _, hg, hb⟩
    · have hre : S.readE i = 1 := by unfold DS.readE; rw [if_neg hd, if_neg hh]
      have hrl : S.readL i = [] := by unfold DS.readL; rw [if_neg (by rw [hre]; decide)]
      rw [hre, hrl]
      have hcase : i < 0 ∨ (S.n : Int) ≤ i := by unfold DS.has at hh; omega
      clear hre hrl hd hd' h4 h5 h6 h7 hok hh
      by_cases hi : i < 0
      · go_enter Tryd.func41, Tryd.ntmps41
        go_wp2
        go_ret2
        exact ⟨none, 0, 0, rfl, Nat.le_refl _, RB.nil_, Below.refl _ _⟩
      · have hi' : (S.n : Int) ≤ i := by omega
        have hi0 : 0 ≤ i := by omega
        clear hcase
        go_enter Tryd.func41, Tryd.ntmps41
        go_wp2
        go_ret2
        exact ⟨none, 0, 0, rfl, Nat.le_refl _, RB.nil_, Below.refl _ _⟩
end

theorem infoOne : (Tryd.prog.info? 115).map (fun i => (i.zero, i.size, i.bytes)) = some (some (.agg #[.slice none 0 0, .slice none 0 0, .int .i64 0]), 3, 56) := by kernel_rfl
def oneZero : Array Value := #[.slice none 0 0, .slice none 0 0, .int .i64 0]
theorem make_ones (n : Nat) (hn : n ≤ 65536) (w : World) : (Instr.makeSlice 92 (.int .i64 (n : Int)) (.int .i64 (n : Int))).run Tryd.prog w = .ok (.slice (some ⟨w.heap.size, 0, none⟩) n n) (w.alloc (.cells (madeCells oneZero (n * 3)) 115)) := by
  obtain ⟨i, hi, hzz⟩ := Option.map_eq_some_iff.1 infoOne
  simp only [Prod.mk.injEq] at hzz
  obtain ⟨hz, hs, hb⟩ := hzz
  have hr := run_make (P := Tryd.prog) w 92 115 i _ Tryd.underlying92 hi hz .i64 .i64 n n (by omega) (Int.le_refl _) (by rw [hb]; omega) (by omega)
  simp only [Int.toNat_natCast, hs] at hr
  exact hr
theorem made_ones (w : World) (n : Nat) : (w.alloc (.cells (madeCells oneZero (n * 3)) 115)).rowIs w.heap.size 115 (n * 3) (fun o => if o % 3 = 2 then .int .i64 0 else .slice none 0 0) := by
  have := World.rowIs_alloc w (madeCells oneZero (n * 3)) 115 (fun o => if o % 3 = 2 then .int .i64 0 else .slice none 0 0) (fun o ho => by
    rw [size_madeCells] at ho
    simp only [madeCells, Array.getElem?_map, Array.getElem?_range, ho, if_true, Option.map_some, Option.some.injEq]
    have h3 : o % 3 = 0 ∨ o % 3 = 1 ∨ o % 3 = 2 := by omega
    have hs : oneZero.size = 3 := rfl
    rw [hs]
    rcases h3 with h | h | h <;> rw [h] <;> rfl)
  rwa [size_madeCells] at this

theorem ref_new (w : World) (n : Nat) (hn : 3 ≤ n ∧ n ≤ 65536) :
    RefAt ((w.alloc (.cells (madeCells oneZero (n * 3)) 115)).alloc (.cells #[.slice (some ⟨w.heap.size, 0, none⟩) n n, .int .i64 0, .int .i64 0, .int .i64 0, .bool false, .bool false] 94)) (fun k => k = w.heap.size ∨ k = w.heap.size + 1) ⟨w.heap.size + 1, 0, none⟩ (DS.new n) := by
  refine ⟨w.heap.size + 1, w.heap.size, rfl, ⟨by omega, .inr rfl, .inl rfl, ?_, _, (made_ones w n).alloc _, fun i hi => ?_, fun k hk => ?_⟩, DS.new_ok hn, Nat.zero_le _⟩
  · have := World.rowIs_alloc (w.alloc (.cells (madeCells oneZero (n * 3)) 115)) #[.slice (some ⟨w.heap.size, 0, none⟩) n n, .int .i64 0, .int .i64 0, .int .i64 0, .bool false, .bool false] 94 (refHead w.heap.size (DS.new n)) (fun i hi => by
      match i, hi with
      | 0, _ => rfl
      | 1, _ => rfl
      | 2, _ => rfl
      | 3, _ => rfl
      | 4, _ => rfl
      | 5, _ => rfl)
    simpa using this
  · refine ⟨.inl ⟨if_neg (by omega), rfl⟩, .inl ⟨if_neg (by omega), rfl⟩, ?_⟩
    rw [if_pos (by omega)]
    rfl
  · simp
    omega

set_option maxHeartbeats 800000 in
theorem refNew_any (n : Int) (w : World) (hn : 3 ≤ n ∧ n ≤ 65536) : Calls Tryd.prog 17 #[.int .i64 n] w fun e w' => ∃ (x : Addr) (G : Nat → Prop), e = .returned (.tuple #[.pointer (some x), .int .i64 0]) ∧ RefAt w' G x (DS.new n.toNat) ∧ Below w.heap.size w w' ∧ ∀ k, G k → w.heap.size ≤ k := by
  obtain ⟨q, rfl⟩ : ∃ q : Nat, n = q := Int.eq_ofNat_of_zero_le (by omega)
  rw [Int.toNat_natCast]
  have hmk := make_ones q (by omega)
  have HN := Lib.hid (ref_new w q (by omega))
  have HB := Lib.hid (((Below.refl w.heap.size w).alloc (Nat.le_refl _) (.cells (madeCells oneZero (q * 3)) 115)).alloc (by simp) (.cells #[.slice (some ⟨w.heap.size, 0, none⟩) q q, .int .i64 0, .int .i64 0, .int .i64 0, .bool false, .bool false] 94))
  have k1 : decide ((q : Int) < 3) = false := by simp; omega
  have k2 : decide ((q : Int) > 65536) = false := by simp; omega
  generalize madeCells oneZero (q * 3) = mc at hmk HN HB
  clear hn
  go_enter Tryd.func17, Tryd.ntmps17
  go_wp2
  go_ret2
  refine ⟨_, _, rfl, HN.out, HB.out, fun k hk => ?_⟩
  omega

set_option maxHeartbeats 800000 in
theorem refNew_no (n : Int) (w : World) (hn : ¬ (3 ≤ n ∧ n ≤ 65536)) : Calls Tryd.prog 17 #[.int .i64 n] w fun e w' => e = .returned (.tuple #[.pointer none, .int .i64 1]) ∧ w = w' := by
  by_cases h : n < 3
  · have k1 : decide (n < 3) = true := by simpa using h
    clear hn
    go_enter Tryd.func17, Tryd.ntmps17
    go_wp2
    go_ret2
    exact ⟨rfl, rfl⟩
  · have k1 : decide (n < 3) = false := by simpa using h
    have k2 : decide (n > 65536) = true := by simp; omega
    clear hn
    go_enter Tryd.func17, Tryd.ntmps17
    go_wp2
    go_ret2
    exact ⟨rfl, rfl⟩

theorem Ref0.cell {w : World} {G : Nat → Prop} {gx gl n : Nat} {hd : Nat → Value} {sf lf : Nat → List Int} {tf : Nat → Nat} (h : Ref0 w G gx gl hd n sf lf tf) {o : Nat} (ho : o < 6) : w.cell? ⟨gx, o, none⟩ = some (hd o) := h.2.2.2.1.cell ho
theorem Ref0.frozen {w : World} {G : Nat → Prop} {gx gl n : Nat} {hd : Nat → Value} {sf lf : Nat → List Int} {tf : Nat → Nat} (h : Ref0 w G gx gl hd n sf lf tf) (o : Nat) : w.frozen? ⟨gx, o, none⟩ = false := h.2.2.2.1.frozen o

theorem Touch.set {F : Nat → Prop} {w w' : World} (h : Touch F w w') {b : Nat} (hb : F b) (o : Nat) (v : Value) : Touch F w (w'.setCell ⟨b, o, none⟩ v) :=
  ⟨h.os, h.tape, h.output, by simpa using h.size, fun k hk hF => (Below.heap_setCell w' ⟨b, o, none⟩ v k (fun e => hF (by rw [show k = b from e]; exact hb))).trans (h.block k hk hF)⟩
theorem Touch.drew {F : Nat → Prop} {w w' : World} (h : Touch F w w') : Touch F w w'.drew := ⟨h.os, h.tape, h.output, h.size, h.block⟩
theorem Touch.trans {F : Nat → Prop} {w w' w'' : World} (h : Touch F w w') (h' : Touch F w' w'') : Touch F w w'' :=
  ⟨h'.os.trans h.os, h'.tape.trans h.tape, h'.output.trans h.output, Nat.le_trans h.size h'.size, fun k hk hF => (h'.block k (Nat.lt_of_lt_of_le hk h.size) hF).trans (h.block k hk hF)⟩
theorem Touch.mono {F F' : Nat → Prop} {w w' : World} (h : Touch F w w') (hF : ∀ k, k < w.heap.size → F k → F' k) : Touch F' w w' := ⟨h.os, h.tape, h.output, h.size, fun k hk hf => h.block k hk (fun hh => hf (hF k hk hh))⟩

end Go.Proofs.YtkpmfobmlaldfaaDoor

/-
  The plain disk's Write by contract. Conditions: fewer than 2^46 bytes, fewer than 2^63 - 1 writes, bytes of a block apart.
-/
namespace Go.Proofs.YtkpmfobmlaldfaaDoor
open Go.RowKit
set_option maxRecDepth 100000
set_option linter.unusedVariables false

theorem RB.touch {w w' : World} {B n : Nat} {A : Option Addr} {l : List Int} {F : Nat → Prop} (h : RB w B A n l) (ht : Touch F w w') (hB : B ≤ w.heap.size) (hA : 0 < n → ∀ a, A = some a → ¬ F a.block) : RB w' B A n l :=
  ⟨h.1, h.2.1, fun hn => by
    obtain ⟨b, off, e, hb, hc⟩ := h.2.2 hn
    refine ⟨b, off, e, hb, fun j hj => ?_⟩
    rw [World.cell?_of_block (w := w) (ht.block b (by omega) (hA hn _ e))]
    exact hc j hj⟩

/-- append of bytes onto nil: a new block, as one step of a region that draws. -/
theorem step_append_fresh {ops : Array Oper} {o : Oper} {a : Act} {w : World} {K : Act → World → Prop} {Q : Exit → Act → World → Prop} {E : Prop} (hgd : o.guard = none) (s x : Operand)
    (ho : o.op = .call { callee := .builtin .append, args := #[s, x], argTypes := #[69, 69] })
    (hs : a.eval s = .slice none 0 0) (B b off m c : Nat) (l : List Int) (hx : a.eval x = .slice (some ⟨b, off, none⟩) m c) (hr : RB w B (some ⟨b, off, none⟩) m l) (hm : 0 < m) (h63 : m ≤ 140737488355328)
    (h : ∀ g cap w', g = w.heap.size → RB w' w'.heap.size (some ⟨g, 0, none⟩) m l → m ≤ cap → Below w.heap.size w w' → K (a.put o.dst (.slice (some ⟨g, 0, none⟩) m cap)) w') :
    if Region.wanted o (yielded ops a.tmps) = true then Oper.wp Tryd.prog o a w K Q else E := by
  obtain ⟨i0, hi, hz0, hz1, hz2⟩ := info_parts info_u8
  refine step_append_lies w hgd s x 69 ho w.heap.size 5 i0 (.int .u8 0) 1 1 Tryd.underlying69 hi hz0 hz1 hz2 rfl (by decide) (.slice none 0 0) 0 [] hs (World.ownsRow_nil _ _ _ _) ⟨b, off, none⟩ m c (l.map (Value.int .u8)) hx (by simp [hr.len]) ?_ (oneCell_bytes l) hm (by unfold maxLen; omega) (by omega) (Nat.le_refl _) w.heap.size rfl ?_
  · intro j u hj
    obtain ⟨ad', e, hc⟩ := hr.src j u hj
    cases e
    exact hc
  · intro g cap w' h1 h2 h3 _
    have hg : g = w.heap.size := by
      rcases h3 with h3 | h3
      · simp [Value.ownBlock] at h3
      · exact h3
    simp only [Nat.zero_add, List.nil_append] at h1
    obtain ⟨A', c', e, hc', hr'⟩ := read_own h1 hr.bytes
    simp only [Value.slice.injEq] at e
    obtain ⟨rfl, _, rfl⟩ := e
    have := h g cap w' hg hr' hc' ((Below.refl _ w).grown h2 (Nat.le_refl _) (own_ge (World.ownsRow_nil w w.heap.size 5 1)))
    simpa using this

section
variable {w : World} {G : Nat → Prop} {x : Addr} {S : DS}

/-- What a write leaves behind. -/
def Wrote (w : World) (G : Nat → Prop) (x : Addr) (S' : DS) (w' : World) : Prop := ∃ G' : Nat → Prop, RefAt w' G' x S' ∧ Touch G w w' ∧ ∀ k, G' k → G k ∨ w.heap.size ≤ k
theorem RefAt.same (h : RefAt w G x S) : Wrote w G x S w := ⟨G, h, Touch.refl _ _, fun k hk => .inl hk⟩

set_option maxHeartbeats 1600000 in
theorem refWrite_no (h : RefAt w G x S) (i : Int) (A : Option Addr) (n c : Nat) (l : List Int) (hl : l.length = n) (hn : n ≤ 140737488355328) (hno : S.down = true ∨ ¬ (S.has i ∧ l.length = 256)) :
    Calls Tryd.prog 67 #[.pointer (some x), .int .i64 i, .slice A n c] w fun e w' => e = .returned (.int .i64 (S.writeE i l)) ∧ Wrote w G x (S.write i l) w' := by
  have hsame := h.same
  obtain ⟨gx, gl, rfl, h0, hok, _⟩ := h
  have c0 : w.cell? ⟨gx, 0, none⟩ = some (.slice (some ⟨gl, 0, none⟩) S.n S.n) := h0.cell (o := 0) (by decide)
  have c5 : w.cell? ⟨gx, 5, none⟩ = some (.bool S.down) := h0.cell (o := 5) (by decide)
  have hsz := hok.size
  unfold DS.writeE DS.write
  by_cases hd : S.down = true
  · rw [if_pos hd, if_pos hd]
    rw [hd] at c5
    have HS := Lib.hid hsame
    clear hd h0 hok hno hsame
    go_enter Tryd.func67, Tryd.ntmps67
    go_wp2
    go_ret
    exact ⟨rfl, HS.out⟩
  · rw [if_neg hd, if_neg hd]
    have hno' : ¬ (S.has i ∧ l.length = 256) := by
      rcases hno with h | h
      · exact absurd h hd
      · exact h
    rw [if_pos hno', if_pos hno']
    have hd' : S.down = false := by simpa using hd
    rw [hd'] at c5
    have HS := Lib.hid hsame
    have hcase : i < 0 ∨ (0 ≤ i ∧ (S.n : Int) ≤ i) ∨ (0 ≤ i ∧ i < (S.n : Int) ∧ (n : Int) ≠ 256) := by
      unfold DS.has at hno'
      omega
    clear hd h0 hok hno hno' hsame hd'
    rcases hcase with h | ⟨h, h'⟩ | ⟨h, h', h''⟩
    · go_enter Tryd.func67, Tryd.ntmps67
      go_wp2
      go_ret
      exact ⟨rfl, HS.out⟩
    · go_enter Tryd.func67, Tryd.ntmps67
      go_wp2
      go_ret
      exact ⟨rfl, HS.out⟩
    · have hne : ((n : Int) != 256) = true := by simpa using h''
      go_enter Tryd.func67, Tryd.ntmps67
      go_wp2
      go_ret
      exact ⟨rfl, HS.out⟩

theorem RefAt.downed (h : RefAt w G x S) : ∃ gx, x = ⟨gx, 0, none⟩ ∧ Wrote w G x { S with down := true } (w.setCell ⟨gx, 5, none⟩ (.bool true)) := by
  obtain ⟨gx, gl, rfl, h0, hok, ha⟩ := h
  refine ⟨gx, rfl, G, ⟨gx, gl, rfl, (h0.head 5 (.bool true)).congrHead (fun j hj => ?_), ⟨hok.size, hok.safeBytes, hok.lastBytes, hok.pendLt, hok.pendNodup, hok.same⟩, ha⟩, (Touch.refl G w).set h0.2.1 5 _, fun k hk => .inl hk⟩
  match j, hj with
  | 0, _ => rfl
  | 1, _ => rfl
  | 2, _ => rfl
  | 3, _ => rfl
  | 4, _ => rfl
  | 5, _ => rfl

set_option maxHeartbeats 1600000 in
theorem refWrite_blown (h : RefAt w G x S) (q : Nat) (A : Option Addr) (c : Nat) (l : List Int) (hl : l.length = 256) (hd : S.down = false) (hq : q < S.n) (ha : S.arm = some 0) :
    Calls Tryd.prog 67 #[.pointer (some x), .int .i64 (q : Int), .slice A 256 c] w fun e w' => e = .returned (.int .i64 (S.writeE q l)) ∧ Wrote w G x (S.write q l) w' := by
  have hd0 : ¬ S.down = true := by rw [hd]; decide
  have hh : ¬ ¬ (S.has (q : Int) ∧ l.length = 256) := fun h => h ⟨⟨by omega, by omega⟩, hl⟩
  have e1 : S.writeE (q : Int) l = 5 := by unfold DS.writeE; rw [if_neg hd0, if_neg hh, if_pos ha]
  have e2 : S.write (q : Int) l = { S with down := true } := by unfold DS.write; rw [if_neg hd0, if_neg hh, if_pos ha]
  rw [e1, e2]
  obtain ⟨gx', hx, hw⟩ := h.downed
  obtain ⟨gx, gl, rfl, h0, hok, _⟩ := h
  obtain rfl : gx = gx' := by cases hx; rfl
  have HW := Lib.hid hw
  have c0 : w.cell? ⟨gx, 0, none⟩ = some (.slice (some ⟨gl, 0, none⟩) S.n S.n) := h0.cell (o := 0) (by decide)
  have c3 : w.cell? ⟨gx, 3, none⟩ = some (.int .i64 (S.arm.getD 0 : Nat)) := h0.cell (o := 3) (by decide)
  have c4 : w.cell? ⟨gx, 4, none⟩ = some (.bool S.arm.isSome) := h0.cell (o := 4) (by decide)
  have c5 : w.cell? ⟨gx, 5, none⟩ = some (.bool S.down) := h0.cell (o := 5) (by decide)
  have f5 := h0.frozen 5
  rw [ha] at c3 c4
  rw [hd] at c5
  simp only [Option.getD_some, Option.isSome_some] at c3 c4
  have c3' : w.cell? ⟨gx, 3, none⟩ = some (.int .i64 0) := c3
  have hsz := hok.size
  have hq' : (q : Int) < (S.n : Int) := by omega
  clear h0 hok hw hx c3 hh e1 e2 hd0 hd ha
  go_enter Tryd.func67, Tryd.ntmps67
  go_wp2
  go_ret
  exact ⟨rfl, HW.out⟩

theorem Ref0.tail {W : World} {gx gl n q m : Nat} {hd : Nat → Value} {sf lf : Nat → List Int} {tf : Nat → Nat} (h : Ref0 W G gx gl hd n sf lf tf) (hq : q < n) (h0 : hd 0 = .slice (some ⟨gl, 0, none⟩) m m) :
    W.cell? ⟨gx, 0, none⟩ = some (.slice (some ⟨gl, 0, none⟩) m m) ∧ (∃ A k c, W.cell? ⟨gl, q * 3 + 1, none⟩ = some (.slice A k c)) ∧ W.frozen? ⟨gl, q * 3 + 1, none⟩ = false ∧ gx < W.heap.size ∧ gl < W.heap.size := by
  have c := h.cell (o := 0) (by decide)
  rw [h0] at c
  have hlt := h.lt
  obtain ⟨h1, h2, h3, h4, f, h5, h6, h7⟩ := h
  obtain ⟨_, hs, _⟩ := h6 q hq
  obtain ⟨A, k, c', e⟩ := hs.shape
  have z := h5.cell (i := q * 3 + 1) (by omega)
  rw [e] at z
  exact ⟨c, ⟨A, k, c', z⟩, h5.frozen _, hlt _ h2, hlt _ h3⟩
theorem far_cell {w : World} {gx b : Nat} (h : b ≠ gx) (o : Nat) (v : Value) (o' : Nat) : (w.setCell ⟨gx, o, none⟩ v).cell? ⟨b, o', none⟩ = w.cell? ⟨b, o', none⟩ := World.cell?_of_block (w := w) (Below.heap_setCell w ⟨gx, o, none⟩ v b h)
theorem below_undrew {W w' : World} (h : Below W.drew.heap.size W.drew w') : Below W.heap.size W w' := (Below.refl W.heap.size W).drew.trans h
/-- The end of a write: the new bytes' block is hung into its sector. -/
theorem wrote_end {W W' : World} {gx gl cap q : Nat} {l : List Int} {hd : Nat → Value} {tf : Nat → Nat} (hW : Ref0 W G gx gl hd S.n S.safe S.last tf) (ht : Touch G w W) (hok : S.Ok) (hq : q < S.n) (hl : l.length = 256 ∧ AllBytes l)
    (harm : (S.put q l).arm.getD 0 ≤ 9223372036854775807) (hhd : ∀ j, j < 6 → hd j = refHead gl (S.put q l) j) (htf : ∀ j, tf j = turnOf (S.put q l).pend j)
    (hb : Below W.heap.size W W') (hr : RB W' W'.heap.size (some ⟨W.heap.size, 0, none⟩) 256 l) (hc : 256 ≤ cap) :
    Wrote w G ⟨gx, 0, none⟩ (S.put q l) (W'.setCell ⟨gl, q * 3 + 1, none⟩ (.slice (some ⟨W.heap.size, 0, none⟩) 256 cap)) := by
  have hlt := hW.lt
  have hgx := hW.2.1
  have hgl := hW.2.2.1
  have hWlt : W.heap.size < W'.heap.size := by
    obtain ⟨b, off, e, hlt', _⟩ := hr.at_ (by decide)
    cases e
    exact hlt'
  have h1 : Ref0 W' (fun k => G k ∨ k = W.heap.size) gx gl hd S.n S.safe S.last tf := hW.grow hb (fun k hk => .inl hk) (fun k hk => by
    rcases hk with hk | rfl
    · exact Nat.lt_of_lt_of_le (hlt k hk) hb.size
    · exact hWlt)
  have hv : SecV W' (fun k => G k ∨ k = W.heap.size) gx gl (.slice (some ⟨W.heap.size, 0, none⟩) 256 cap) l := by
    obtain ⟨b, off, e, hlt', hcell⟩ := hr.at_ (by decide)
    cases e
    exact .inr ⟨_, 0, cap, rfl, hc, .inr rfl, fun e => by have := hlt _ hgx; omega, fun e => by have := hlt _ hgl; omega, hcell⟩
  have h2 := (h1.setLast hq hv).congrHead hhd
  refine ⟨fun k => G k ∨ k = W.heap.size, ⟨gx, gl, rfl, ?_, DS.put_ok hok hq hl, harm⟩, ?_, fun k hk => ?_⟩
  · exact h2.congr (fun j hj => ⟨rfl, rfl, htf j⟩)
  · exact (ht.trans ⟨hb.os, hb.tape, hb.output, hb.size, fun k hk _ => hb.block k hk⟩).set hgl _ _
  · rcases hk with hk | rfl
    · exact .inl hk
    · exact .inr ht.size
theorem Wrote.drew {S' : DS} {w' : World} (h : Wrote w G x S' w') : Wrote w G x S' w'.drew := by
  obtain ⟨G', h1, h2, h3⟩ := h
  exact ⟨G', h1.keep (fun _ _ => rfl), h2.drew, h3⟩

set_option maxRecDepth 100000 in
set_option maxHeartbeats 3200000 in
theorem refWrite_fn (h : RefAt w G x S) (q : Nat) (b off c B : Nat) (l : List Int) (hr : RB w B (some ⟨b, off, none⟩) 256 l) (hB : B ≤ w.heap.size) (hGb : ¬ G b) (hd : S.down = false) (hq : q < S.n) (hw : S.writes ≤ 9223372036854775806) (ha : S.arm = none) (hm : q ∉ S.pend) :
    Calls Tryd.prog 67 #[.pointer (some x), .int .i64 (q : Int), .slice (some ⟨b, off, none⟩) 256 c] w fun e w' => e = .returned (.int .i64 (S.writeE q l)) ∧ Wrote w G x (S.write q l) w' := by
  have hl := hr.len
  have hd0 : ¬ S.down = true := by rw [hd]; decide
  have hh : ¬ ¬ (S.has (q : Int) ∧ l.length = 256) := fun h => h ⟨⟨by omega, by omega⟩, hl⟩
  have ha0 : ¬ S.arm = some 0 := by rw [ha]; simp
  have e1 : S.writeE (q : Int) l = 0 := by unfold DS.writeE; rw [if_neg hd0, if_neg hh, if_neg ha0]
  have e2 : S.write (q : Int) l = S.put q l := by unfold DS.write; rw [if_neg hd0, if_neg hh, if_neg ha0, Int.toNat_natCast]
  rw [e1, e2]
  obtain ⟨gx, gl, rfl, h0, hok, harm⟩ := h
  have c0 : w.cell? ⟨gx, 0, none⟩ = some (.slice (some ⟨gl, 0, none⟩) S.n S.n) := h0.cell (o := 0) (by decide)
  have c1 : w.cell? ⟨gx, 1, none⟩ = some (.int .i64 (S.pend.length : Nat)) := h0.cell (o := 1) (by decide)
  have c2 : w.cell? ⟨gx, 2, none⟩ = some (.int .i64 (S.writes : Nat)) := h0.cell (o := 2) (by decide)
  have c3 : w.cell? ⟨gx, 3, none⟩ = some (.int .i64 (S.arm.getD 0 : Nat)) := h0.cell (o := 3) (by decide)
  have c4 : w.cell? ⟨gx, 4, none⟩ = some (.bool S.arm.isSome) := h0.cell (o := 4) (by decide)
  have c5 : w.cell? ⟨gx, 5, none⟩ = some (.bool S.down) := h0.cell (o := 5) (by decide)
  have f1 := h0.frozen 1
  have f2 := h0.frozen 2
  have f3 := h0.frozen 3
  rw [ha] at c3 c4
  rw [hd] at c5
  simp only [Option.getD_none, Option.isSome_none] at c3 c4
  have hsz := hok.size
  have hpl := hok.pend_len
  have hq' : (q : Int) < (S.n : Int) := by omega
  obtain ⟨hne, hgx, hgl, hrx, f, hrow, hsec, hglt⟩ := h0
  obtain ⟨hs0, ⟨Al, nl, cl, hlv⟩, htv⟩ := (hsec q hq).imp_right (And.imp_left SecV.shape)
  have z1 := hrow.cell (i := q * 3 + 1) (by omega)
  have z2 := hrow.cell (i := q * 3 + 2) (by omega)
  have g1 := hrow.frozen (q * 3 + 1)
  have g2 := hrow.frozen (q * 3 + 2)
  rw [hlv] at z1
  rw [htv] at z2
  have hH0 := Lib.hid (show Ref0 w G gx gl (refHead gl S) S.n S.safe S.last (turnOf S.pend) from ⟨hne, hgx, hgl, hrx, f, hrow, hsec, hglt⟩)
  clear hrow hsec hlv htv hrx hs0 hglt
  rw [turnOf_no hm] at z2
  have z2' : w.cell? ⟨gl, q * 3 + 2, none⟩ = some (.int .i64 0) := z2
  clear z2
  clear hd0 hh ha0 e1 e2
  go_enter Tryd.func67, Tryd.ntmps67
  have HW := Lib.hid (show Ref0 (((w.setCell ⟨gx, 2, none⟩ (.int .i64 (S.writes + 1))).setCell ⟨gx, 1, none⟩ (.int .i64 (S.pend.length + 1))).setCell ⟨gl, q * 3 + 2, none⟩ (.int .i64 (S.pend.length + 1))).drew G gx gl (fun j => if j = 1 then .int .i64 (S.pend.length + 1) else if j = 2 then .int .i64 (S.writes + 1) else refHead gl S j) S.n S.safe S.last (fun j => if j = q then S.pend.length + 1 else turnOf S.pend j) from ((((hH0.out.head 2 (.int .i64 (S.writes + 1))).head 1 (.int .i64 (S.pend.length + 1))).setTurn hq (S.pend.length + 1)).keep (fun _ _ => rfl)))
  have HT := Lib.hid (show Touch G w (((w.setCell ⟨gx, 2, none⟩ (.int .i64 (S.writes + 1))).setCell ⟨gx, 1, none⟩ (.int .i64 (S.pend.length + 1))).setCell ⟨gl, q * 3 + 2, none⟩ (.int .i64 (S.pend.length + 1))).drew from ((((Touch.refl G w).set hgx 2 _).set hgx 1 _).set hgl (q * 3 + 2) _).drew)
  have HR := Lib.hid (hr.touch HT.out hB (fun _ a ha hg => by cases ha; exact hGb hg))
  have HOK := Lib.hid hok
  clear hr hH0 hok
  go_wp2_with fail
  go_region
  obtain ⟨Y0, ⟨Aw, nw, cw, Z1⟩, G1, hgxW, hglW⟩ := HW.out.tail hq rfl
  clear c0 c1 c2 c3 c4 c5 f1 f2 f3 z1 g1 g2 z2'
  generalize (((w.setCell ⟨gx, 2, none⟩ (.int .i64 (S.writes + 1))).setCell ⟨gx, 1, none⟩ (.int .i64 (S.pend.length + 1))).setCell ⟨gl, q * 3 + 2, none⟩ (.int .i64 (S.pend.length + 1))).drew = W at HW HT HR Y0 Z1 G1 hgxW hglW ⊢
  go_wp2_with fail
  have HXX := Lib.hid (And.intro hl (And.intro hm (And.intro ha (And.intro hd harm))))
  clear hl hm ha hd harm
  go_region_held3 (fun w' => w'.cell? ⟨gx, 0, none⟩ = some (.slice (some ⟨gl, 0, none⟩) S.n S.n))
    (first | exact Y0 | exact y0' | exact (far_cell hne _ _ _).trans y0')
    ((refine step_append_fresh (by rfl) _ _ (by rfl) (by rfl) B b off 256 c l (by rfl) HR.out (by decide) (by decide) ?_; intro g cap w' hg hr' hc' hb'; have hg' : g = W.heap.size := hg; subst hg'; clear hg; have y0' := (hb'.cell (p := ⟨gx, 0, none⟩) hgxW).trans Y0; have z1' := (hb'.cell (p := ⟨gl, q * 3 + 1, none⟩) hglW).trans Z1; have g1' := (hb'.frozen (p := ⟨gl, q * 3 + 1, none⟩) hglW).trans G1))
  obtain ⟨hl, hm, ha, hd, harm⟩ := HXX.out
  have hpu : (S.put q l).pend = S.pend ++ [q] := if_neg hm
  have hE := Lib.hid (wrote_end HW.out HT.out HOK.out hq ⟨hl, HR.out.bytes⟩ (by show (S.arm.map (· - 1)).getD 0 ≤ _; rw [ha]; simp; try omega) (fun j hj => by
    match j, hj with
    | 0, _ => rfl
    | 1, _ => show Value.int .i64 ((S.pend.length : Nat) + 1) = .int .i64 ((S.put q l).pend.length : Nat); rw [hpu]; simp
    | 2, _ => rfl
    | 3, _ => show Value.int .i64 (S.arm.getD 0 : Nat) = .int .i64 ((S.arm.map (· - 1)).getD 0 : Nat); rw [ha]; simp
    | 4, _ => show Value.bool S.arm.isSome = .bool (S.arm.map (· - 1)).isSome; simp
    | 5, _ => rfl) (fun j => by rw [hpu]; exact (turnOf_add hm j).symm) (below_undrew hb') hr' hc')
  clear HW HT HR HOK hb' hr' y0' z1' g1' Y0 Z1 G1
  go_wp2
  go_ret
  exact ⟨rfl, hE.out⟩


set_option maxRecDepth 100000 in
set_option maxHeartbeats 3200000 in
theorem refWrite_fm (h : RefAt w G x S) (q : Nat) (b off c B : Nat) (l : List Int) (hr : RB w B (some ⟨b, off, none⟩) 256 l) (hB : B ≤ w.heap.size) (hGb : ¬ G b) (hd : S.down = false) (hq : q < S.n) (hw : S.writes ≤ 9223372036854775806) (ha : S.arm = none) (hm : q ∈ S.pend) :
    Calls Tryd.prog 67 #[.pointer (some x), .int .i64 (q : Int), .slice (some ⟨b, off, none⟩) 256 c] w fun e w' => e = .returned (.int .i64 (S.writeE q l)) ∧ Wrote w G x (S.write q l) w' := by
  have hl := hr.len
  have hd0 : ¬ S.down = true := by rw [hd]; decide
  have hh : ¬ ¬ (S.has (q : Int) ∧ l.length = 256) := fun h => h ⟨⟨by omega, by omega⟩, hl⟩
  have ha0 : ¬ S.arm = some 0 := by rw [ha]; simp
  have e1 : S.writeE (q : Int) l = 0 := by unfold DS.writeE; rw [if_neg hd0, if_neg hh, if_neg ha0]
  have e2 : S.write (q : Int) l = S.put q l := by unfold DS.write; rw [if_neg hd0, if_neg hh, if_neg ha0, Int.toNat_natCast]
  rw [e1, e2]
  obtain ⟨gx, gl, rfl, h0, hok, harm⟩ := h
  have c0 : w.cell? ⟨gx, 0, none⟩ = some (.slice (some ⟨gl, 0, none⟩) S.n S.n) := h0.cell (o := 0) (by decide)
  have c1 : w.cell? ⟨gx, 1, none⟩ = some (.int .i64 (S.pend.length : Nat)) := h0.cell (o := 1) (by decide)
  have c2 : w.cell? ⟨gx, 2, none⟩ = some (.int .i64 (S.writes : Nat)) := h0.cell (o := 2) (by decide)
  have c3 : w.cell? ⟨gx, 3, none⟩ = some (.int .i64 (S.arm.getD 0 : Nat)) := h0.cell (o := 3) (by decide)
  have c4 : w.cell? ⟨gx, 4, none⟩ = some (.bool S.arm.isSome) := h0.cell (o := 4) (by decide)
  have c5 : w.cell? ⟨gx, 5, none⟩ = some (.bool S.down) := h0.cell (o := 5) (by decide)
  have f1 := h0.frozen 1
  have f2 := h0.frozen 2
  have f3 := h0.frozen 3
  rw [ha] at c3 c4
  rw [hd] at c5
  simp only [Option.getD_none, Option.isSome_none] at c3 c4
  have hsz := hok.size
  have hpl := hok.pend_len
  have hq' : (q : Int) < (S.n : Int) := by omega
  obtain ⟨hne, hgx, hgl, hrx, f, hrow, hsec, hglt⟩ := h0
  obtain ⟨hs0, ⟨Al, nl, cl, hlv⟩, htv⟩ := (hsec q hq).imp_right (And.imp_left SecV.shape)
  have z1 := hrow.cell (i := q * 3 + 1) (by omega)
  have z2 := hrow.cell (i := q * 3 + 2) (by omega)
  have g1 := hrow.frozen (q * 3 + 1)
  have g2 := hrow.frozen (q * 3 + 2)
  rw [hlv] at z1
  rw [htv] at z2
  have hH0 := Lib.hid (show Ref0 w G gx gl (refHead gl S) S.n S.safe S.last (turnOf S.pend) from ⟨hne, hgx, hgl, hrx, f, hrow, hsec, hglt⟩)
  clear hrow hsec hlv htv hrx hs0 hglt
  obtain ⟨t, ht⟩ : ∃ t : Nat, turnOf S.pend q = t := ⟨_, rfl⟩
  have htp : 0 < t := by have := turnOf_pos.2 hm; omega
  have htn : ((t : Int) == 0) = false := by simp; omega
  rw [ht] at z2
  clear hd0 hh ha0 e1 e2
  go_enter Tryd.func67, Tryd.ntmps67
  have HW := Lib.hid (show Ref0 (w.setCell ⟨gx, 2, none⟩ (.int .i64 (S.writes + 1))) G gx gl (fun j => if j = 2 then .int .i64 (S.writes + 1) else refHead gl S j) S.n S.safe S.last (turnOf S.pend) from (hH0.out.head 2 (.int .i64 (S.writes + 1))))
  have HT := Lib.hid (show Touch G w (w.setCell ⟨gx, 2, none⟩ (.int .i64 (S.writes + 1))) from ((Touch.refl G w).set hgx 2 _))
  have HR := Lib.hid (hr.touch HT.out hB (fun _ a ha hg => by cases ha; exact hGb hg))
  have HOK := Lib.hid hok
  clear hr hH0 hok
  go_wp2_with fail
  obtain ⟨Y0, ⟨Aw, nw, cw, Z1⟩, G1, hgxW, hglW⟩ := HW.out.tail hq rfl
  clear c0 c1 c2 c3 c4 c5 f1 f2 f3 z1 g1 g2 z2
  generalize (w.setCell ⟨gx, 2, none⟩ (.int .i64 (S.writes + 1))) = W at HW HT HR Y0 Z1 G1 hgxW hglW ⊢
  have HXX := Lib.hid (And.intro hl (And.intro hm (And.intro ha (And.intro hd harm))))
  clear hl hm ha hd harm
  go_region_held3 (fun w' => w'.cell? ⟨gx, 0, none⟩ = some (.slice (some ⟨gl, 0, none⟩) S.n S.n))
    (first | exact Y0 | exact y0' | exact (far_cell hne _ _ _).trans y0')
    ((refine step_append_fresh (by rfl) _ _ (by rfl) (by rfl) B b off 256 c l (by rfl) HR.out (by decide) (by decide) ?_; intro g cap w' hg hr' hc' hb'; have hg' : g = W.heap.size := hg; subst hg'; clear hg; have y0' := (hb'.cell (p := ⟨gx, 0, none⟩) hgxW).trans Y0; have z1' := (hb'.cell (p := ⟨gl, q * 3 + 1, none⟩) hglW).trans Z1; have g1' := (hb'.frozen (p := ⟨gl, q * 3 + 1, none⟩) hglW).trans G1))
  obtain ⟨hl, hm, ha, hd, harm⟩ := HXX.out
  have hpu : (S.put q l).pend = S.pend := if_pos hm
  have hE := Lib.hid (wrote_end HW.out HT.out HOK.out hq ⟨hl, HR.out.bytes⟩ (by show (S.arm.map (· - 1)).getD 0 ≤ _; rw [ha]; simp; try omega) (fun j hj => by
    match j, hj with
    | 0, _ => rfl
    | 1, _ => show Value.int .i64 (S.pend.length : Nat) = .int .i64 ((S.put q l).pend.length : Nat); rw [hpu]
    | 2, _ => rfl
    | 3, _ => show Value.int .i64 (S.arm.getD 0 : Nat) = .int .i64 ((S.arm.map (· - 1)).getD 0 : Nat); rw [ha]; simp
    | 4, _ => show Value.bool S.arm.isSome = .bool (S.arm.map (· - 1)).isSome; simp
    | 5, _ => rfl) (fun j => by rw [hpu]) (below_undrew hb') hr' hc')
  clear HW HT HR HOK hb' hr' y0' z1' g1' Y0 Z1 G1
  go_wp2
  go_ret
  exact ⟨rfl, hE.out⟩


set_option maxRecDepth 100000 in
set_option maxHeartbeats 3200000 in
theorem refWrite_an (h : RefAt w G x S) (q : Nat) (b off c B : Nat) (l : List Int) (hr : RB w B (some ⟨b, off, none⟩) 256 l) (hB : B ≤ w.heap.size) (hGb : ¬ G b) (hd : S.down = false) (hq : q < S.n) (hw : S.writes ≤ 9223372036854775806) (k : Nat) (ha : S.arm = some (k + 1)) (hk : k + 1 ≤ 9223372036854775807) (hm : q ∉ S.pend) :
    Calls Tryd.prog 67 #[.pointer (some x), .int .i64 (q : Int), .slice (some ⟨b, off, none⟩) 256 c] w fun e w' => e = .returned (.int .i64 (S.writeE q l)) ∧ Wrote w G x (S.write q l) w' := by
  have hl := hr.len
  have hd0 : ¬ S.down = true := by rw [hd]; decide
  have hh : ¬ ¬ (S.has (q : Int) ∧ l.length = 256) := fun h => h ⟨⟨by omega, by omega⟩, hl⟩
  have ha0 : ¬ S.arm = some 0 := by rw [ha]; simp
  have e1 : S.writeE (q : Int) l = 0 := by unfold DS.writeE; rw [if_neg hd0, if_neg hh, if_neg ha0]
  have e2 : S.write (q : Int) l = S.put q l := by unfold DS.write; rw [if_neg hd0, if_neg hh, if_neg ha0, Int.toNat_natCast]
  rw [e1, e2]
  obtain ⟨gx, gl, rfl, h0, hok, harm⟩ := h
  have c0 : w.cell? ⟨gx, 0, none⟩ = some (.slice (some ⟨gl, 0, none⟩) S.n S.n) := h0.cell (o := 0) (by decide)
  have c1 : w.cell? ⟨gx, 1, none⟩ = some (.int .i64 (S.pend.length : Nat)) := h0.cell (o := 1) (by decide)
  have c2 : w.cell? ⟨gx, 2, none⟩ = some (.int .i64 (S.writes : Nat)) := h0.cell (o := 2) (by decide)
  have c3 : w.cell? ⟨gx, 3, none⟩ = some (.int .i64 (S.arm.getD 0 : Nat)) := h0.cell (o := 3) (by decide)
  have c4 : w.cell? ⟨gx, 4, none⟩ = some (.bool S.arm.isSome) := h0.cell (o := 4) (by decide)
  have c5 : w.cell? ⟨gx, 5, none⟩ = some (.bool S.down) := h0.cell (o := 5) (by decide)
  have f1 := h0.frozen 1
  have f2 := h0.frozen 2
  have f3 := h0.frozen 3
  rw [ha] at c3 c4
  rw [hd] at c5
  simp only [Option.getD_some, Option.isSome_some] at c3 c4
  have hsz := hok.size
  have hpl := hok.pend_len
  have hq' : (q : Int) < (S.n : Int) := by omega
  obtain ⟨hne, hgx, hgl, hrx, f, hrow, hsec, hglt⟩ := h0
  obtain ⟨hs0, ⟨Al, nl, cl, hlv⟩, htv⟩ := (hsec q hq).imp_right (And.imp_left SecV.shape)
  have z1 := hrow.cell (i := q * 3 + 1) (by omega)
  have z2 := hrow.cell (i := q * 3 + 2) (by omega)
  have g1 := hrow.frozen (q * 3 + 1)
  have g2 := hrow.frozen (q * 3 + 2)
  rw [hlv] at z1
  rw [htv] at z2
  have hH0 := Lib.hid (show Ref0 w G gx gl (refHead gl S) S.n S.safe S.last (turnOf S.pend) from ⟨hne, hgx, hgl, hrx, f, hrow, hsec, hglt⟩)
  clear hrow hsec hlv htv hrx hs0 hglt
  rw [turnOf_no hm] at z2
  have z2' : w.cell? ⟨gl, q * 3 + 2, none⟩ = some (.int .i64 0) := z2
  clear z2
  have hkz : (((k + 1 : Nat) : Int) == 0) = false := by simp; omega
  clear hd0 hh ha0 e1 e2
  go_enter Tryd.func67, Tryd.ntmps67
  have HW := Lib.hid (show Ref0 ((((w.setCell ⟨gx, 3, none⟩ (.int .i64 k)).setCell ⟨gx, 2, none⟩ (.int .i64 (S.writes + 1))).setCell ⟨gx, 1, none⟩ (.int .i64 (S.pend.length + 1))).setCell ⟨gl, q * 3 + 2, none⟩ (.int .i64 (S.pend.length + 1))).drew G gx gl (fun j => if j = 1 then .int .i64 (S.pend.length + 1) else if j = 2 then .int .i64 (S.writes + 1) else if j = 3 then .int .i64 k else refHead gl S j) S.n S.safe S.last (fun j => if j = q then S.pend.length + 1 else turnOf S.pend j) from (((((hH0.out.head 3 (.int .i64 k)).head 2 (.int .i64 (S.writes + 1))).head 1 (.int .i64 (S.pend.length + 1))).setTurn hq (S.pend.length + 1)).keep (fun _ _ => rfl)))
  have HT := Lib.hid (show Touch G w ((((w.setCell ⟨gx, 3, none⟩ (.int .i64 k)).setCell ⟨gx, 2, none⟩ (.int .i64 (S.writes + 1))).setCell ⟨gx, 1, none⟩ (.int .i64 (S.pend.length + 1))).setCell ⟨gl, q * 3 + 2, none⟩ (.int .i64 (S.pend.length + 1))).drew from (((((Touch.refl G w).set hgx 3 _).set hgx 2 _).set hgx 1 _).set hgl (q * 3 + 2) _).drew)
  have HR := Lib.hid (hr.touch HT.out hB (fun _ a ha hg => by cases ha; exact hGb hg))
  have HOK := Lib.hid hok
  clear hr hH0 hok
  go_wp2_with fail
  go_region
  obtain ⟨Y0, ⟨Aw, nw, cw, Z1⟩, G1, hgxW, hglW⟩ := HW.out.tail hq rfl
  clear c0 c1 c2 c3 c4 c5 f1 f2 f3 z1 g1 g2 z2'
  generalize ((((w.setCell ⟨gx, 3, none⟩ (.int .i64 k)).setCell ⟨gx, 2, none⟩ (.int .i64 (S.writes + 1))).setCell ⟨gx, 1, none⟩ (.int .i64 (S.pend.length + 1))).setCell ⟨gl, q * 3 + 2, none⟩ (.int .i64 (S.pend.length + 1))).drew = W at HW HT HR Y0 Z1 G1 hgxW hglW ⊢
  go_wp2_with fail
  have HXX := Lib.hid (And.intro hl (And.intro hm (And.intro ha (And.intro hd harm))))
  clear hl hm ha hd harm
  go_region_held3 (fun w' => w'.cell? ⟨gx, 0, none⟩ = some (.slice (some ⟨gl, 0, none⟩) S.n S.n))
    (first | exact Y0 | exact y0' | exact (far_cell hne _ _ _).trans y0')
    ((refine step_append_fresh (by rfl) _ _ (by rfl) (by rfl) B b off 256 c l (by rfl) HR.out (by decide) (by decide) ?_; intro g cap w' hg hr' hc' hb'; have hg' : g = W.heap.size := hg; subst hg'; clear hg; have y0' := (hb'.cell (p := ⟨gx, 0, none⟩) hgxW).trans Y0; have z1' := (hb'.cell (p := ⟨gl, q * 3 + 1, none⟩) hglW).trans Z1; have g1' := (hb'.frozen (p := ⟨gl, q * 3 + 1, none⟩) hglW).trans G1))
  obtain ⟨hl, hm, ha, hd, harm⟩ := HXX.out
  have hpu : (S.put q l).pend = S.pend ++ [q] := if_neg hm
  have hE := Lib.hid (wrote_end HW.out HT.out HOK.out hq ⟨hl, HR.out.bytes⟩ (by show (S.arm.map (· - 1)).getD 0 ≤ _; rw [ha]; simp; try omega) (fun j hj => by
    match j, hj with
    | 0, _ => rfl
    | 1, _ => show Value.int .i64 ((S.pend.length : Nat) + 1) = .int .i64 ((S.put q l).pend.length : Nat); rw [hpu]; simp
    | 2, _ => rfl
    | 3, _ => show Value.int .i64 (k : Nat) = .int .i64 ((S.arm.map (· - 1)).getD 0 : Nat); rw [ha]; simp
    | 4, _ => show Value.bool S.arm.isSome = .bool (S.arm.map (· - 1)).isSome; simp
    | 5, _ => rfl) (fun j => by rw [hpu]; exact (turnOf_add hm j).symm) (below_undrew hb') hr' hc')
  clear HW HT HR HOK hb' hr' y0' z1' g1' Y0 Z1 G1
  go_wp2
  go_ret
  exact ⟨rfl, hE.out⟩


set_option maxRecDepth 100000 in
set_option maxHeartbeats 3200000 in
theorem refWrite_am (h : RefAt w G x S) (q : Nat) (b off c B : Nat) (l : List Int) (hr : RB w B (some ⟨b, off, none⟩) 256 l) (hB : B ≤ w.heap.size) (hGb : ¬ G b) (hd : S.down = false) (hq : q < S.n) (hw : S.writes ≤ 9223372036854775806) (k : Nat) (ha : S.arm = some (k + 1)) (hk : k + 1 ≤ 9223372036854775807) (hm : q ∈ S.pend) :
    Calls Tryd.prog 67 #[.pointer (some x), .int .i64 (q : Int), .slice (some ⟨b, off, none⟩) 256 c] w fun e w' => e = .returned (.int .i64 (S.writeE q l)) ∧ Wrote w G x (S.write q l) w' := by
  have hl := hr.len
  have hd0 : ¬ S.down = true := by rw [hd]; decide
  have hh : ¬ ¬ (S.has (q : Int) ∧ l.length = 256) := fun h => h ⟨⟨by omega, by omega⟩, hl⟩
  have ha0 : ¬ S.arm = some 0 := by rw [ha]; simp
  have e1 : S.writeE (q : Int) l = 0 := by unfold DS.writeE; rw [if_neg hd0, if_neg hh, if_neg ha0]
  have e2 : S.write (q : Int) l = S.put q l := by unfold DS.write; rw [if_neg hd0, if_neg hh, if_neg ha0, Int.toNat_natCast]
  rw [e1, e2]
  obtain ⟨gx, gl, rfl, h0, hok, harm⟩ := h
  have c0 : w.cell? ⟨gx, 0, none⟩ = some (.slice (some ⟨gl, 0, none⟩) S.n S.n) := h0.cell (o := 0) (by decide)
  have c1 : w.cell? ⟨gx, 1, none⟩ = some (.int .i64 (S.pend.length : Nat)) := h0.cell (o := 1) (by decide)
  have c2 : w.cell? ⟨gx, 2, none⟩ = some (.int .i64 (S.writes : Nat)) := h0.cell (o := 2) (by decide)
  have c3 : w.cell? ⟨gx, 3, none⟩ = some (.int .i64 (S.arm.getD 0 : Nat)) := h0.cell (o := 3) (by decide)
  have c4 : w.cell? ⟨gx, 4, none⟩ = some (.bool S.arm.isSome) := h0.cell (o := 4) (by decide)
  have c5 : w.cell? ⟨gx, 5, none⟩ = some (.bool S.down) := h0.cell (o := 5) (by decide)
  have f1 := h0.frozen 1
  have f2 := h0.frozen 2
  have f3 := h0.frozen 3
  rw [ha] at c3 c4
  rw [hd] at c5
  simp only [Option.getD_some, Option.isSome_some] at c3 c4
  have hsz := hok.size
  have hpl := hok.pend_len
  have hq' : (q : Int) < (S.n : Int) := by omega
  obtain ⟨hne, hgx, hgl, hrx, f, hrow, hsec, hglt⟩ := h0
  obtain ⟨hs0, ⟨Al, nl, cl, hlv⟩, htv⟩ := (hsec q hq).imp_right (And.imp_left SecV.shape)
  have z1 := hrow.cell (i := q * 3 + 1) (by omega)
  have z2 := hrow.cell (i := q * 3 + 2) (by omega)
  have g1 := hrow.frozen (q * 3 + 1)
  have g2 := hrow.frozen (q * 3 + 2)
  rw [hlv] at z1
  rw [htv] at z2
  have hH0 := Lib.hid (show Ref0 w G gx gl (refHead gl S) S.n S.safe S.last (turnOf S.pend) from ⟨hne, hgx, hgl, hrx, f, hrow, hsec, hglt⟩)
  clear hrow hsec hlv htv hrx hs0 hglt
  obtain ⟨t, ht⟩ : ∃ t : Nat, turnOf S.pend q = t := ⟨_, rfl⟩
  have htp : 0 < t := by have := turnOf_pos.2 hm; omega
  have htn : ((t : Int) == 0) = false := by simp; omega
  rw [ht] at z2
  have hkz : (((k + 1 : Nat) : Int) == 0) = false := by simp; omega
  clear hd0 hh ha0 e1 e2
  go_enter Tryd.func67, Tryd.ntmps67
  have HW := Lib.hid (show Ref0 ((w.setCell ⟨gx, 3, none⟩ (.int .i64 k)).setCell ⟨gx, 2, none⟩ (.int .i64 (S.writes + 1))) G gx gl (fun j => if j = 2 then .int .i64 (S.writes + 1) else (if j = 3 then .int .i64 k else refHead gl S j)) S.n S.safe S.last (turnOf S.pend) from ((hH0.out.head 3 (.int .i64 k)).head 2 (.int .i64 (S.writes + 1))))
  have HT := Lib.hid (show Touch G w ((w.setCell ⟨gx, 3, none⟩ (.int .i64 k)).setCell ⟨gx, 2, none⟩ (.int .i64 (S.writes + 1))) from (((Touch.refl G w).set hgx 3 _).set hgx 2 _))
  have HR := Lib.hid (hr.touch HT.out hB (fun _ a ha hg => by cases ha; exact hGb hg))
  have HOK := Lib.hid hok
  clear hr hH0 hok
  go_wp2_with fail
  obtain ⟨Y0, ⟨Aw, nw, cw, Z1⟩, G1, hgxW, hglW⟩ := HW.out.tail hq rfl
  clear c0 c1 c2 c3 c4 c5 f1 f2 f3 z1 g1 g2 z2
  generalize ((w.setCell ⟨gx, 3, none⟩ (.int .i64 k)).setCell ⟨gx, 2, none⟩ (.int .i64 (S.writes + 1))) = W at HW HT HR Y0 Z1 G1 hgxW hglW ⊢
  have HXX := Lib.hid (And.intro hl (And.intro hm (And.intro ha (And.intro hd harm))))
  clear hl hm ha hd harm
  go_region_held3 (fun w' => w'.cell? ⟨gx, 0, none⟩ = some (.slice (some ⟨gl, 0, none⟩) S.n S.n))
    (first | exact Y0 | exact y0' | exact (far_cell hne _ _ _).trans y0')
    ((refine step_append_fresh (by rfl) _ _ (by rfl) (by rfl) B b off 256 c l (by rfl) HR.out (by decide) (by decide) ?_; intro g cap w' hg hr' hc' hb'; have hg' : g = W.heap.size := hg; subst hg'; clear hg; have y0' := (hb'.cell (p := ⟨gx, 0, none⟩) hgxW).trans Y0; have z1' := (hb'.cell (p := ⟨gl, q * 3 + 1, none⟩) hglW).trans Z1; have g1' := (hb'.frozen (p := ⟨gl, q * 3 + 1, none⟩) hglW).trans G1))
  obtain ⟨hl, hm, ha, hd, harm⟩ := HXX.out
  have hpu : (S.put q l).pend = S.pend := if_pos hm
  have hE := Lib.hid (wrote_end HW.out HT.out HOK.out hq ⟨hl, HR.out.bytes⟩ (by show (S.arm.map (· - 1)).getD 0 ≤ _; rw [ha]; simp; try omega) (fun j hj => by
    match j, hj with
    | 0, _ => rfl
    | 1, _ => show Value.int .i64 (S.pend.length : Nat) = .int .i64 ((S.put q l).pend.length : Nat); rw [hpu]
    | 2, _ => rfl
    | 3, _ => show Value.int .i64 (k : Nat) = .int .i64 ((S.arm.map (· - 1)).getD 0 : Nat); rw [ha]; simp
    | 4, _ => show Value.bool S.arm.isSome = .bool (S.arm.map (· - 1)).isSome; simp
    | 5, _ => rfl) (fun j => by rw [hpu]) (below_undrew hb') hr' hc')
  clear HW HT HR HOK hb' hr' y0' z1' g1' Y0 Z1 G1
  go_wp2
  go_ret
  exact ⟨rfl, hE.out⟩


/-- The plain disk's Write. -/
theorem refWrite_any (h : RefAt w G x S) (i : Int) (b off n c B : Nat) (l : List Int) (hr : RB w B (some ⟨b, off, none⟩) n l) (hB : B ≤ w.heap.size) (hGb : ¬ G b) (hn : n ≤ 140737488355328) (hw : S.writes ≤ 9223372036854775806) :
    Calls Tryd.prog 67 #[.pointer (some x), .int .i64 i, .slice (some ⟨b, off, none⟩) n c] w fun e w' => e = .returned (.int .i64 (S.writeE i l)) ∧ Wrote w G x (S.write i l) w' := by
  have hl := hr.len
  by_cases hno : S.down = true ∨ ¬ (S.has i ∧ l.length = 256)
  · exact refWrite_no h i _ n c l hl hn hno
  · have hd : S.down = false := by
      cases e : S.down
      · rfl
      · exact absurd (.inl e) hno
    have hh : S.has i ∧ l.length = 256 := by
      by_cases e : S.has i ∧ l.length = 256
      · exact e
      · exact absurd (.inr e) hno
    obtain ⟨q, rfl⟩ : ∃ q : Nat, i = q := Int.eq_ofNat_of_zero_le hh.1.1
    have hq : q < S.n := by have := hh.1.2; omega
    obtain rfl : n = 256 := by omega
    have harm : S.arm.getD 0 ≤ 9223372036854775807 := by obtain ⟨_, _, _, _, _, ha⟩ := h; exact ha
    cases ha : S.arm with
    | none =>
      by_cases hm : q ∈ S.pend
      · exact refWrite_fm h q b off c B l hr hB hGb hd hq hw ha hm
      · exact refWrite_fn h q b off c B l hr hB hGb hd hq hw ha hm
    | some k =>
      rw [ha] at harm
      cases k with
      | zero => exact refWrite_blown h q _ c l hh.2 hd hq ha
      | succ k =>
        by_cases hm : q ∈ S.pend
        · exact refWrite_am h q b off c B l hr hB hGb hd hq hw k ha harm hm
        · exact refWrite_an h q b off c B l hr hB hGb hd hq hw k ha harm hm
end

end Go.Proofs.YtkpmfobmlaldfaaDoor

/-
  The plain disk's Flush by contract. No condition.
-/
namespace Go.Proofs.YtkpmfobmlaldfaaDoor
open Go.RowKit
set_option maxRecDepth 100000
set_option linter.unusedVariables false

section
variable {w : World} {G : Nat → Prop} {x : Addr} {S : DS}

/-- One sector's three cells. -/
theorem Ref0.one {W : World} {gx gl n q : Nat} {hd : Nat → Value} {sf lf : Nat → List Int} {tf : Nat → Nat} (h : Ref0 W G gx gl hd n sf lf tf) (hq : q < n) :
    ∃ (As : Option Addr) (ns cs : Nat) (Al : Option Addr) (nl cl : Nat), W.cell? ⟨gl, q * 3, none⟩ = some (.slice As ns cs) ∧ W.cell? ⟨gl, q * 3 + 1, none⟩ = some (.slice Al nl cl) ∧ W.cell? ⟨gl, q * 3 + 2, none⟩ = some (.int .i64 (tf q)) ∧
      SecV W G gx gl (.slice As ns cs) (sf q) ∧ SecV W G gx gl (.slice Al nl cl) (lf q) := by
  obtain ⟨h1, h2, h3, h4, f, h5, h6, h7⟩ := h
  obtain ⟨hs, hl, ht⟩ := h6 q hq
  obtain ⟨As, ns, cs, e1⟩ := hs.shape
  obtain ⟨Al, nl, cl, e2⟩ := hl.shape
  have z0 := h5.cell (i := q * 3) (by omega)
  have z1 := h5.cell (i := q * 3 + 1) (by omega)
  have z2 := h5.cell (i := q * 3 + 2) (by omega)
  rw [e1] at z0 hs
  rw [e2] at z1 hl
  rw [ht] at z2
  exact ⟨As, ns, cs, Al, nl, cl, z0, z1, z2, hs, hl⟩
theorem Ref0.glFrozen {W : World} {gx gl n : Nat} {hd : Nat → Value} {sf lf : Nat → List Int} {tf : Nat → Nat} (h : Ref0 W G gx gl hd n sf lf tf) (o : Nat) : W.frozen? ⟨gl, o, none⟩ = false := by
  obtain ⟨_, _, _, _, f, h5, _⟩ := h
  exact h5.frozen o
theorem Ref0.glLt {W : World} {gx gl n : Nat} {hd : Nat → Value} {sf lf : Nat → List Int} {tf : Nat → Nat} (h : Ref0 W G gx gl hd n sf lf tf) : gl < W.heap.size := h.lt _ h.2.2.1

set_option maxRecDepth 100000 in
set_option maxHeartbeats 3200000 in
theorem refFlush_any (h : RefAt w G x S) : Calls Tryd.prog 68 #[.pointer (some x)] w fun e w' => e = .returned (.int .i64 S.flushE) ∧ Wrote w G x S.flush w' := by
  have hsame := h.same
  obtain ⟨gx, gl, rfl, h0, hok, harm⟩ := h
  have c5 : w.cell? ⟨gx, 5, none⟩ = some (.bool S.down) := h0.cell (o := 5) (by decide)
  unfold DS.flushE DS.flush
  by_cases hd : S.down = true
  · rw [if_pos hd, if_pos hd]
    rw [hd] at c5
    have HS := Lib.hid hsame
    clear hd h0 hok hsame
    go_enter Tryd.func68, Tryd.ntmps68
    go_wp2
    go_ret
    exact ⟨rfl, HS.out⟩
  · rw [if_neg hd, if_neg hd]
    have hd' : S.down = false := by simpa using hd
    rw [hd'] at c5
    have hsz := hok.size
    have HOK := Lib.hid hok
    have HD := Lib.hid hd'
    have h0' : Ref0 w G gx gl (refHead gl S) S.n (fun i => if i < 0 then S.last i else S.safe i) S.last (fun i => if i < 0 then 0 else turnOf S.pend i) := h0
    have H0 := Lib.hid h0'
    have hne := h0.1
    have hgx := h0.2.1
    have hgl := h0.2.2.1
    clear hd hd' hsame hok h0 h0'
    go_enter Tryd.func68, Tryd.ntmps68
    go_wp2_with fail
    go_loopw [3] (fun i wr => ∃ k : Nat, k ≤ S.n ∧ i = .int .i64 k ∧ Hid (Ref0 wr G gx gl (refHead gl S) S.n (fun i => if i < k then S.last i else S.safe i) S.last (fun i => if i < k then 0 else turnOf S.pend i)) ∧ Hid (Touch G w wr)) (fun i _ => S.n - (intOf i).toNat)
    case atStart => exact ⟨0, Nat.zero_le _, rfl, H0, Lib.hid (Touch.refl _ _)⟩
    case round =>
      obtain ⟨k, hk, rfl, hr, ht⟩ := hrel
      clear H0 c5
      have c0 : wr.cell? ⟨gx, 0, none⟩ = some (.slice (some ⟨gl, 0, none⟩) S.n S.n) := hr.out.cell (o := 0) (by decide)
      by_cases hlt : k < S.n
      · obtain ⟨As, ns, cs, Al, nl, cl, z0, z1, z2, hsv, hlv⟩ := hr.out.one hlt
        rw [if_neg (Nat.lt_irrefl k)] at z2
        have g0 := hr.out.glFrozen (k * 3)
        have g2 := hr.out.glFrozen (k * 3 + 2)
        have HLV := Lib.hid hlv
        have hlt' : (k : Int) < (S.n : Int) := by omega
        clear hsv hlv
        by_cases hm : k ∈ S.pend
        · obtain ⟨t, htq⟩ : ∃ t : Nat, turnOf S.pend k = t := ⟨_, rfl⟩
          have htp : 0 < t := by have := turnOf_pos.2 hm; omega
          rw [htq] at z2
          have HM := Lib.hid hm
          clear htq hm
          go_wp2_with fail
          go_region
          have HX := Lib.hid (show Ref0 ((wr.setCell ⟨gl, k * 3, none⟩ (.slice Al nl cl)).setCell ⟨gl, k * 3 + 2, none⟩ (.int .i64 0)).drew G gx gl (refHead gl S) S.n (fun i => if i < k + 1 then S.last i else S.safe i) S.last (fun i => if i < k + 1 then 0 else turnOf S.pend i) from
            (((hr.out.setSafe hlt HLV.out).setTurn hlt 0).keep (w' := ((wr.setCell ⟨gl, k * 3, none⟩ (.slice Al nl cl)).setCell ⟨gl, k * 3 + 2, none⟩ (.int .i64 ((0 : Nat) : Int))).drew) (fun _ _ => rfl)).congr (fun i _ => by
              by_cases e : i = k
              · subst e; simp
              · have e2 : (i < k + 1) = (i < k) := by simp; omega
                simp [e, e2]))
          have HTX := Lib.hid (show Touch G w ((wr.setCell ⟨gl, k * 3, none⟩ (.slice Al nl cl)).setCell ⟨gl, k * 3 + 2, none⟩ (.int .i64 0)).drew from ((ht.out.set hgl _ _).set hgl _ _).drew)
          clear hr ht z0 z1 z2 g0 g2 c0
          go_wp2
          go_roundw
          case rel => exact ⟨k + 1, by omega, by go_num, HX, HTX⟩
          case measure => simp [intOf]; omega
        · rw [turnOf_no hm] at z2
          have z2' : wr.cell? ⟨gl, k * 3 + 2, none⟩ = some (.int .i64 0) := z2
          clear z2
          have HM := Lib.hid hm
          clear hm
          go_wp2_with fail
          go_roundw
          case rel =>
            refine ⟨k + 1, by omega, by go_num, Lib.hid (hr.out.congr (fun i hi => ⟨?_, rfl, ?_⟩)), ht⟩
            · by_cases e : i = k
              · subst e; simp [HOK.out.same i HM.out]
              · have e2 : (i < k + 1) = (i < k) := by simp; omega
                simp [e2]
            · by_cases e : i = k
              · subst e; simp [turnOf_no HM.out]
              · have e2 : (i < k + 1) = (i < k) := by simp; omega
                simp [e2]
          case measure => simp [intOf]; omega
      · obtain rfl : k = S.n := by omega
        have f1 := hr.out.frozen 1
        have c1 : wr.cell? ⟨gx, 1, none⟩ = some (.int .i64 (S.pend.length : Nat)) := hr.out.cell (o := 1) (by decide)
        go_wp2
        go_ret
        refine ⟨rfl, G, ⟨gx, gl, rfl, ((hr.out.head 1 (.int .i64 0)).congrHead (fun j hj => ?_)).congr (fun i hi => ?_), ?_, harm⟩, ht.out.set hgx _ _, fun k hk => .inl hk⟩
        · match j, hj with
          | 0, _ => rfl
          | 1, _ => rfl
          | 2, _ => rfl
          | 3, _ => rfl
          | 4, _ => rfl
          | 5, _ => rfl
        · have hi' : i < S.n := hi
          simp [hi', turnOf]
        · have := DS.flush_ok HOK.out
          unfold DS.flush at this
          rwa [if_neg (by rw [HD.out]; decide)] at this
end
end Go.Proofs.YtkpmfobmlaldfaaDoor

/-
  The plain disk's Crash by contract. Condition: the list of what is kept lies apart.
-/
namespace Go.Proofs.YtkpmfobmlaldfaaDoor
open Go.RowKit
set_option maxRecDepth 100000
set_option linter.unusedVariables false

theorem kept_turn {S : DS} (hok : S.Ok) (keep : List Int) (i : Nat) : S.kept keep i ↔ (0 < turnOf S.pend i ∧ ((turnOf S.pend i : Nat) : Int) - 1 ∈ keep) := by
  constructor
  · rintro ⟨a, ha, hm⟩
    have := (turnOf_get hok.pendNodup a i).1 ha
    rw [this]
    refine ⟨by omega, ?_⟩
    have e : ((a + 1 : Nat) : Int) - 1 = a := by omega
    rwa [e]
  · rintro ⟨h0, hm⟩
    obtain ⟨a, ha⟩ : ∃ a, turnOf S.pend i = a + 1 := ⟨turnOf S.pend i - 1, by omega⟩
    refine ⟨a, (turnOf_get hok.pendNodup a i).2 ha, ?_⟩
    rw [ha] at hm
    have e : ((a + 1 : Nat) : Int) - 1 = a := by omega
    rwa [e] at hm

open Classical in
theorem crash_parts (S : DS) (l : List Int) : ∃ cs : Nat → List Int, (∀ i, S.kept l i → cs i = S.last i) ∧ (∀ i, ¬ S.kept l i → cs i = S.safe i) ∧ (S.crash l).safe = cs ∧ (S.crash l).last = cs := by
  refine ⟨(S.crash l).safe, fun i hk => ?_, fun i hk => ?_, rfl, rfl⟩
  · show (if S.kept l i then S.last i else S.safe i) = _
    rw [if_pos hk]
  · show (if S.kept l i then S.last i else S.safe i) = _
    rw [if_neg hk]

section
variable {w : World} {G : Nat → Prop} {x : Addr} {S : DS}

/-- The loop's memory. -/
def CrashAt (w0 wr : World) (G : Nat → Prop) (gx gl : Nat) (S : DS) (cs : Nat → List Int) (k : Nat) : Prop :=
  Ref0 wr G gx gl (refHead gl S) S.n (fun i => if i < k then cs i else S.safe i) (fun i => if i < k then cs i else S.last i) (fun i => if i < k then 0 else turnOf S.pend i) ∧ Touch G w0 wr

theorem CrashAt.step {w0 wr : World} {gx gl : Nat} {cs : Nat → List Int} {k : Nat} {A : Option Addr} {n c : Nat} (h : CrashAt w0 wr G gx gl S cs k) (hk : k < S.n) (hs : cs k = S.safe k) (hv : SecV wr G gx gl (.slice A n c) (S.safe k)) :
    CrashAt w0 ((wr.setCell ⟨gl, k * 3 + 1, none⟩ (.slice A n c)).setCell ⟨gl, k * 3 + 2, none⟩ (.int .i64 0)).drew G gx gl S cs (k + 1) := by
  obtain ⟨h, ht⟩ := h
  refine ⟨(((h.setLast hk hv).setTurn hk 0).keep (w' := ((wr.setCell ⟨gl, k * 3 + 1, none⟩ (.slice A n c)).setCell ⟨gl, k * 3 + 2, none⟩ (.int .i64 ((0 : Nat) : Int))).drew) (fun _ _ => rfl)).congr (fun i _ => ?_), ((ht.set h.2.2.1 _ _).set h.2.2.1 _ _).drew⟩
  by_cases e : i = k
  · subst e; simp [hs]
  · have e2 : (i < k + 1) = (i < k) := by simp; omega
    simp [e, e2]
theorem CrashAt.kept {w0 wr : World} {gx gl : Nat} {cs : Nat → List Int} {k : Nat} {A : Option Addr} {n c : Nat} (h : CrashAt w0 wr G gx gl S cs k) (hk : k < S.n) (hs : cs k = S.last k) (hv : SecV wr G gx gl (.slice A n c) (S.last k)) :
    CrashAt w0 (((wr.setCell ⟨gl, k * 3, none⟩ (.slice A n c)).setCell ⟨gl, k * 3 + 1, none⟩ (.slice A n c)).setCell ⟨gl, k * 3 + 2, none⟩ (.int .i64 0)).drew.drew G gx gl S cs (k + 1) := by
  obtain ⟨h, ht⟩ := h
  have h1 := h.setSafe hk hv
  have hv1 : SecV (wr.setCell ⟨gl, k * 3, none⟩ (.slice A n c)) G gx gl (.slice A n c) (S.last k) := hv.keep (fun _ h => h) (fun b o _ _ hb => far_cell hb _ _ _)
  refine ⟨(((h1.setLast hk hv1).setTurn hk 0).keep (w' := (((wr.setCell ⟨gl, k * 3, none⟩ (.slice A n c)).setCell ⟨gl, k * 3 + 1, none⟩ (.slice A n c)).setCell ⟨gl, k * 3 + 2, none⟩ (.int .i64 ((0 : Nat) : Int))).drew.drew) (fun _ _ => rfl)).congr (fun i _ => ?_), (((ht.set h.2.2.1 _ _).set h.2.2.1 _ _).set h.2.2.1 _ _).drew.drew⟩
  by_cases e : i = k
  · subst e; simp [hs]
  · have e2 : (i < k + 1) = (i < k) := by simp; omega
    simp [e, e2]

end
end Go.Proofs.YtkpmfobmlaldfaaDoor

/-
  Contract of the plain Put: for any slice of bytes, any number and any size the answer is a new slice of these bytes, behind them the number's bytes, or nothing more where the number does not fit. Condition: fewer than 2^47 - 8 bytes.
-/
namespace Go.Proofs.YtkpmfobmlaldfaaDoor
open Go.RowKit
set_option maxRecDepth 100000
set_option linter.unusedVariables false

theorem refFill_start {w : World} {base e n k : Nat} {v : Value} {l : List Int} {x : Int} (h : w.ownsRow base e 1 v n (l.map (Value.int .u8))) : w.ownsRow base e 1 v (n + 0) ((l ++ putB (shN x (k - 0)) 0).map (Value.int .u8)) := by
  simpa [putB] using h

theorem shN_eq (x : Int) (m : Nat) : shN x m = x / 2 ^ (8 * m) := by
  induction m with
  | zero => simp [shN]
  | succ m ih =>
    rw [shN, ih, Int.ediv_ediv_of_nonneg (Int.le_of_lt (Int.pow_pos (by decide)))]
    congr 1
    rw [show 8 * (m + 1) = 8 * m + 8 from by omega, Int.pow_add]
    rfl
theorem refFill_step {w : World} {base e n k j m : Nat} {v : Value} {l : List Int} {x : Int} (hk : m + j + 1 = k) (h : w.ownsRow base e 1 v (n + j + 1) ((l ++ putB (shN x (k - j)) j ++ [x / 2 ^ (8 * m) % 256]).map (Value.int .u8))) :
    w.ownsRow base e 1 v (n + (j + 1)) ((l ++ putB (shN x (k - (j + 1))) (j + 1)).map (Value.int .u8)) := by
  subst hk
  have e1 : m + j + 1 - j = m + 1 := by omega
  have e2 : m + j + 1 - (j + 1) = m := by omega
  rw [e1] at h
  rw [e2]
  rw [← shN_eq] at h
  rw [putB, ← List.append_assoc]
  exact h

set_option maxHeartbeats 800000 in
theorem refPut_yes (A : Option Addr) (n c B : Nat) (l : List Int) (x : Int) (k : Nat) (w : World) (hr : RB w B A n l) (hB : B ≤ w.heap.size) (hm : n ≤ 140737488355000) (hs : rightB x (k : Int) = true) (hk1 : 1 ≤ k) (hk8 : k ≤ 8) (hxl : -9223372036854775808 ≤ x) (hxh : x ≤ 9223372036854775807) :
    Calls Tryd.prog 29 #[.slice A n c, .int .i64 x, .int .i64 (k : Int)] w fun e w' => ∃ v, e = .returned v ∧ w'.ownsRow w.heap.size 5 1 v (n + k) ((l ++ putB x k).map (Value.int .u8)) ∧ Below w.heap.size w w' := by
  have HS := Lib.hid hs
  clear hs
  go_enter Tryd.func29, Tryd.ntmps29
  go_wp2_with (first
    | (go_at_call 51; refine (refRight_yes _ _ _ HS.out).mono ?_; rintro e w' ⟨rfl, rfl⟩)
    | (at_builtin; refine wpList_append_bytes rfl _ (.tmp 9) rfl w.heap.size _ 0 [] rfl (World.ownsRow_nil _ _ _ _) B A n c l rfl hr (by omega) (Nat.le_refl _) ?_; intro v1 w1 hown1 _ hb1))
  simp only [Nat.zero_add, List.nil_append] at hown1
  have hown := Lib.hid (refFill_start (x := x) (k := k) hown1)
  clear hown1
  go_loopw [7, 8] (fun v i wr => ∃ (j : Nat) (z : Int), j ≤ k ∧ z + j + 1 ≤ k ∧ (k : Int) ≤ z + j + 1 ∧ i = .int .i64 z ∧ Hid (wr.ownsRow w.heap.size 5 1 v (n + j) ((l ++ putB (shN x (k - j)) j).map (Value.int .u8))) ∧ Below w.heap.size w wr)
    (fun _ i _ => (intOf i + 1).toNat)
  case atStart => exact ⟨0, _, Nat.zero_le _, by omega, by omega, rfl, hown, hb1⟩
  case round =>
    obtain ⟨j, z, hj, hz1, hz2, rfl, hownj, hbj⟩ := hrel
    clear hown
    by_cases hlt : j < k
    · obtain ⟨m, rfl⟩ := Int.eq_ofNat_of_zero_le (show 0 ≤ z by omega)
      have hm7 : m ≤ 7 := by omega
      go_wp2_with (at_builtin; refine wpList_append_bytes rfl (.tmp 22) (.tmp 28) rfl w.heap.size _ (n + j) _ rfl (hownj.out.alloc _) (wr.heap.size + 1) (some ⟨wr.heap.size, 0, none⟩) 1 1 [_] rfl (RB.one wr 5 (by omega)) (by omega) (by have := hbj.size; simp; omega) ?_; intro v2 w2 hown2 _ hb2)
      have hstep := Lib.hid (refFill_step (j := j) (m := m) (k := k) (by omega) hown2)
      clear hown2 hownj
      go_roundw
      case rel => exact ⟨j + 1, _, by omega, by omega, by omega, rfl, hstep, (hbj.alloc hbj.size _).trans hb2⟩
      case measure => simp [intOf]
    · have hjk : j = k := by omega
      subst hjk
      have hzn : z < 0 := by omega
      go_wp2
      go_ret
      exact ⟨_, rfl, by simpa [shN] using hownj.out, hbj⟩

set_option maxHeartbeats 800000 in
theorem refPut_no (A : Option Addr) (n c B : Nat) (l : List Int) (x s : Int) (w : World) (hr : RB w B A n l) (hm : n ≤ 140737488355000) (hs : rightB x s = false) :
    Calls Tryd.prog 29 #[.slice A n c, .int .i64 x, .int .i64 s] w fun e w' => ∃ v, e = .returned v ∧ w'.ownsRow w.heap.size 5 1 v n (l.map (Value.int .u8)) ∧ Below w.heap.size w w' := by
  have HS := Lib.hid hs
  clear hs
  go_enter Tryd.func29, Tryd.ntmps29
  go_wp2_with (first
    | (go_at_call 51; refine (refRight_no _ _ _ HS.out).mono ?_; rintro e w' ⟨rfl, rfl⟩)
    | (at_builtin; refine wpList_append_bytes rfl _ (.tmp 9) rfl w.heap.size _ 0 [] rfl (World.ownsRow_nil _ _ _ _) B A n c l rfl hr (by omega) (Nat.le_refl _) ?_; intro v1 w1 hown1 _ hb1))
  simp only [Nat.zero_add, List.nil_append] at hown1
  go_ret
  exact ⟨_, rfl, hown1, hb1⟩

theorem putR_bytes {l : List Int} (h : AllBytes l) (x s : Int) : AllBytes (putR l x s) := by
  unfold putR
  split
  · exact h.append (putB_bytes _ _)
  · exact h

/-- The plain Put answers a row of its own. -/
theorem refPut_own (A : Option Addr) (n c B : Nat) (l : List Int) (x s : Int) (w : World) (hr : RB w B A n l) (hB : B ≤ w.heap.size) (hm : n ≤ 140737488355000) (hxl : -9223372036854775808 ≤ x) (hxh : x ≤ 9223372036854775807) :
    Calls Tryd.prog 29 #[.slice A n c, .int .i64 x, .int .i64 s] w fun e w' => ∃ v, e = .returned v ∧ w'.ownsRow w.heap.size 5 1 v (putR l x s).length ((putR l x s).map (Value.int .u8)) ∧ Below w.heap.size w w' := by
  unfold putR
  by_cases h : rightB x s = true
  · rw [if_pos h]
    have hc4 := right_size h
    obtain ⟨k, rfl⟩ := Int.eq_ofNat_of_zero_le (show 0 ≤ s by omega)
    refine (refPut_yes A n c B l x k w hr hB hm h (by omega) (by omega) hxl hxh).mono ?_
    rintro e w' ⟨v, rfl, h1, h2⟩
    refine ⟨v, rfl, ?_, h2⟩
    rw [List.length_append, putB_length, hr.len]
    exact h1
  · rw [if_neg h]
    refine (refPut_no A n c B l x s w hr hm (by simpa using h)).mono ?_
    rintro e w' ⟨v, rfl, h1, h2⟩
    refine ⟨v, rfl, ?_, h2⟩
    rw [hr.len]
    exact h1

theorem refPut_any (A : Option Addr) (n c B : Nat) (l : List Int) (x s : Int) (w : World) (hr : RB w B A n l) (hB : B ≤ w.heap.size) (hm : n ≤ 140737488355000) (hxl : -9223372036854775808 ≤ x) (hxh : x ≤ 9223372036854775807) :
    Calls Tryd.prog 29 #[.slice A n c, .int .i64 x, .int .i64 s] w fun e w' => ∃ A' n' c', e = .returned (.slice A' n' c') ∧ n' ≤ c' ∧ RB w' w'.heap.size A' n' (putR l x s) ∧ Below w.heap.size w w' := by
  unfold putR
  by_cases h : rightB x s = true
  · rw [if_pos h]
    have hc4 := right_size h
    obtain ⟨k, rfl⟩ := Int.eq_ofNat_of_zero_le (show 0 ≤ s by omega)
    refine (refPut_yes A n c B l x k w hr hB hm h (by omega) (by omega) hxl hxh).mono ?_
    rintro e w' ⟨v, rfl, h1, h2⟩
    obtain ⟨A', c', rfl, hc', hr'⟩ := read_own h1 (hr.bytes.append (putB_bytes _ _))
    exact ⟨A', _, c', rfl, hc', hr', h2⟩
  · rw [if_neg h]
    refine (refPut_no A n c B l x s w hr hm (by simpa using h)).mono ?_
    rintro e w' ⟨v, rfl, h1, h2⟩
    obtain ⟨A', c', rfl, hc', hr'⟩ := read_own h1 hr.bytes
    exact ⟨A', _, c', rfl, hc', hr', h2⟩

theorem Fresh.read {w w' : World} {e : TypeId} {v : Value} {l : List Int} (h : Fresh w w' e v l) (hl : AllBytes l) : ∃ A, v = .slice A l.length l.length ∧ RB w' w'.heap.size A l.length l := by
  obtain ⟨g, rfl, _, hg⟩ := h
  refine ⟨_, rfl, rfl, hl, fun hn => ⟨g, 0, rfl, ?_, fun j hj => ?_⟩⟩
  · rcases Nat.lt_or_ge g w'.heap.size with h' | h'
    · exact h'
    · rw [Array.getElem?_eq_none h'] at hg; cases hg
  · rw [Nat.zero_add, cell_of_row w' g j _ e (0, 0) hg]
    simp [List.getElem?_eq_getElem hj]

end Go.Proofs.YtkpmfobmlaldfaaDoor

/-
  Contracts of the plain Right, Pack and Unpack of sectors: for any numbers and bytes they answer the sector, the page, or which refusal; nothing that was there is written. Condition: fewer than 2^47 bytes.
-/
namespace Go.Proofs.YtkpmfobmlaldfaaDoor
open Go.RowKit
set_option maxRecDepth 100000
set_option linter.unusedVariables false

theorem secR_cases (p s : Int) : secR p s = (decide (0 ≤ p) && decide (p < 4294967296) && decide (0 ≤ s) && decide (s ≤ 4611686018427387904)) := by
  unfold secR
  by_cases a : 0 ≤ p <;> by_cases b : p < 4294967296 <;> by_cases c : 0 ≤ s <;> by_cases d : s ≤ 4611686018427387904 <;> simp [a, b, c, d]

set_option maxHeartbeats 800000 in
theorem refSecRight_any (p s : Int) (w : World) :
    Calls Tryd.prog 71 #[.int .i64 p, .int .i64 s] w fun e w' => e = .returned (.bool (secR p s)) ∧ w = w' := by
  rw [secR_cases]
  generalize h1 : decide (0 ≤ p) = b1
  generalize h2 : decide (p < 4294967296) = b2
  generalize h3 : decide (0 ≤ s) = b3
  generalize h4 : decide (s ≤ 4611686018427387904) = b4
  cases b1
  · go_enter Tryd.func71, Tryd.ntmps71
    go_wp2; go_ret; exact ⟨rfl, rfl⟩
  cases b2
  · go_enter Tryd.func71, Tryd.ntmps71
    go_wp2; go_ret; exact ⟨rfl, rfl⟩
  cases b3
  · go_enter Tryd.func71, Tryd.ntmps71
    go_wp2; go_ret; exact ⟨rfl, rfl⟩
  cases b4
  · go_enter Tryd.func71, Tryd.ntmps71
    go_wp2; go_ret; exact ⟨rfl, rfl⟩
  · go_enter Tryd.func71, Tryd.ntmps71
    go_wp2; go_ret; exact ⟨rfl, rfl⟩

theorem putR_page {p : Int} (h : rightB p 4 = true) : putR [] p 4 = putB p 4 := by simp [putR, h]
theorem putR_seq {s : Int} (l : List Int) (h : rightB s 8 = true) : putR l s 8 = l ++ putB s 8 := by simp [putR, h]

set_option maxHeartbeats 1600000 in
theorem refPack_yes (A : Option Addr) (n c B : Nat) (l : List Int) (p s : Int) (w : World) (hr : RB w B A n l) (hB : B ≤ w.heap.size) (hn : n = 240) (hs : secR p s = true) :
    Calls Tryd.prog 66 #[.int .i64 p, .int .i64 s, .slice A n c] w fun e w' => ∃ v, e = .returned (.tuple #[v, .int .i64 0]) ∧ w'.ownsRow w.heap.size 5 1 v 256 ((secL p s l).map (Value.int .u8)) ∧ Below w.heap.size w w' := by
  subst hn
  obtain ⟨r1, r2⟩ := secR_right hs
  obtain ⟨b1, b2, b3, b4⟩ := secR_ints hs
  have HS := Lib.hid hs
  have hlen := hr.len
  have HR1 := Lib.hid (putR_page r1)
  have HR2 := Lib.hid (putR_seq (putB p 4) r2)
  have hbytes := secBody_bytes p s hr.bytes
  have hsl := sumOf_lt hbytes
  have HR3 := Lib.hid (putR_page (sum_right hbytes))
  have hnl := secBody_length p s l
  clear hs r1 r2
  go_enter Tryd.func66, Tryd.ntmps66
  go_wp2_with fail
  refine (refSecRight_any _ _ _).mono ?_
  rw [HS.out]
  rintro e w1 ⟨rfl, rfl⟩
  go_wp2_with fail
  refine (refPut_own none 0 0 0 [] p 4 _ RB.nil_ (Nat.zero_le _) (by decide) b1 b2).mono ?_
  rw [HR1.out, putB_length]
  rintro e w1 ⟨v1, rfl, hown1, hb1⟩
  obtain ⟨A1, c1, rfl, hc1, hr1⟩ := read_own hown1 (putB_bytes _ _)
  have hs1 := hb1.size
  clear hown1
  go_wp2_with fail
  refine (refPut_own _ _ _ _ _ s 8 _ hr1 (Nat.le_refl _) (by decide) b3 b4).mono ?_
  rw [HR2.out, List.length_append, putB_length, putB_length]
  rintro e w2 ⟨v2, rfl, hown2, hb2⟩
  have hs2 := hb2.size
  have hb02 := hb1.trans (hb2.mono hs1)
  have hra2 := hr.below (hb02.mono hB)
  clear hr1
  go_wp2_with (at_builtin; refine wpList_append_bytes rfl (.tmp 21) (.tmp 22) rfl w1.heap.size _ (4 + 8) _ rfl hown2 B A 240 c l rfl hra2 (by omega) hs2 ?_; intro v3 w3 hown3 _ hb3)
  have hown3' : w3.ownsRow w1.heap.size 5 1 v3 252 ((secBody p s l).map (Value.int .u8)) := hown3
  obtain ⟨A3, c3, rfl, hc3, hr3⟩ := read_own hown3' hbytes
  have hs3 := hb3.size
  have hb03 := hb02.trans (hb3.mono hs1)
  clear hown2 hown3 hown3' hra2
  refine (refSum_any _ _ _ _ _ _ hr3 (by decide)).mono ?_
  rintro e w4 ⟨rfl, rfl⟩
  go_wp2_with fail
  refine (refPut_own none 0 0 0 [] (sumOf (secBody p s l) : Int) 4 _ RB.nil_ (Nat.zero_le _) (by decide) (by omega) (by omega)).mono ?_
  rw [HR3.out, putB_length]
  rintro e w4 ⟨v4, rfl, hown4, hb4⟩
  have hs4 := hb4.size
  have hra4 := hr3.below hb4
  have hb04 := hb03.trans (hb4.mono hb03.size)
  clear hr3
  go_wp2_with (at_builtin; refine wpList_append_bytes rfl (.tmp 27) (.tmp 28) rfl w3.heap.size _ 4 _ rfl hown4 w3.heap.size A3 252 c3 _ rfl hra4 (by omega) hs4 ?_; intro v5 w5 hown5 _ hb5)
  have hown5' := Lib.hid (own_base_le hown5 hb03.size)
  have hb05 := hb04.trans (hb5.mono hb03.size)
  clear hown5 hown4 hra4
  go_ret2
  exact ⟨_, rfl, hown5'.out, hb05⟩

set_option maxHeartbeats 400000 in
theorem refPack_no (A : Option Addr) (n c : Nat) (p s : Int) (w : World) (hn : n ≤ maxLen) (h : secR p s = false ∨ n ≠ 240) :
    Calls Tryd.prog 66 #[.int .i64 p, .int .i64 s, .slice A n c] w fun e w' => e = .returned (.tuple #[.slice none 0 0, .int .i64 1]) ∧ w = w' := by
  unfold maxLen at hn
  by_cases hs : secR p s = true
  · have hne : n ≠ 240 := by
      rcases h with h | h
      · rw [hs] at h; cases h
      · exact h
    have k : ((n : Int) != 240) = true := by simp; omega
    have HS := Lib.hid hs
    clear hs h
    go_enter Tryd.func66, Tryd.ntmps66
    go_wp2_with fail
    refine (refSecRight_any _ _ _).mono ?_
    rw [HS.out]
    rintro e w1 ⟨rfl, rfl⟩
    go_wp2
    go_ret2
    exact ⟨rfl, rfl⟩
  · have HS := Lib.hid (show secR p s = false by simpa using hs)
    clear hs h
    go_enter Tryd.func66, Tryd.ntmps66
    go_wp2_with fail
    refine (refSecRight_any _ _ _).mono ?_
    rw [HS.out]
    rintro e w1 ⟨rfl, rfl⟩
    go_wp2
    go_ret2
    exact ⟨rfl, rfl⟩

/-- The plain Pack. -/
theorem refPack_any (A : Option Addr) (n c B : Nat) (l : List Int) (p s : Int) (w : World) (hr : RB w B A n l) (hB : B ≤ w.heap.size) (hn : n ≤ maxLen) :
    Calls Tryd.prog 66 #[.int .i64 p, .int .i64 s, .slice A n c] w fun e w' => ∃ A' n' c', e = .returned (.tuple #[.slice A' n' c', .int .i64 (packR p s l).2]) ∧ n' ≤ c' ∧ RB w' w'.heap.size A' n' (packR p s l).1 ∧ Below w.heap.size w w' := by
  unfold packR
  by_cases h : secR p s = true ∧ l.length = 240
  · rw [if_pos h]
    refine (refPack_yes A n c B l p s w hr hB (by rw [← hr.len]; exact h.2) h.1).mono ?_
    rintro e w' ⟨v, rfl, hown, hb⟩
    obtain ⟨A', c', rfl, hc', hr'⟩ := read_own hown (secL_bytes p s hr.bytes)
    exact ⟨A', 256, c', rfl, hc', hr', hb⟩
  · rw [if_neg h]
    have h' : secR p s = false ∨ n ≠ 240 := by
      by_cases hs : secR p s = true
      · right
        intro e
        exact h ⟨hs, by rw [hr.len]; exact e⟩
      · left; simpa using hs
    refine (refPack_no A n c p s w hn h').mono ?_
    rintro e w' ⟨rfl, rfl⟩
    exact ⟨none, 0, 0, rfl, Nat.le_refl _, RB.nil_, Below.refl _ _⟩

theorem getR_at {l : List Int} (a k : Nat) (hk : sizeB (k : Int) = true) (h : a + k ≤ l.length) : getR l (a : Int) (k : Int) = (numOf ((l.drop a).take k), 0) := by
  unfold getR
  rw [if_pos ⟨hk, by omega⟩, if_neg (by omega)]
  simp

set_option maxHeartbeats 1600000 in
theorem refUnpack_yes (A : Option Addr) (n c B : Nat) (l : List Int) (w : World) (hr : RB w B A n l) (hB : B ≤ w.heap.size) (hc : n ≤ c) (h : isSec l) :
    Calls Tryd.prog 42 #[.slice A n c] w fun e w' => ∃ v, e = .returned (.tuple #[.int .i64 (numOf ((l.drop 4).take 4)), .int .i64 (numOf ((l.drop 8).take 8)), v, .int .i64 0]) ∧ w'.ownsRow w.heap.size 5 1 v 240 ((l.drop 16).map (Value.int .u8)) ∧ Below w.heap.size w w' := by
  obtain ⟨hn, hsum, hs⟩ := h
  have hl := hr.len
  obtain rfl : n = 256 := by omega
  have g1 := getR_at (l := l) 0 4 (by decide) (by omega)
  have g2 := getR_at (l := l) 4 4 (by decide) (by omega)
  have g3 := getR_at (l := l) 8 8 (by decide) (by omega)
  rw [List.drop_zero] at g1
  have HS := Lib.hid hs
  have G1 := Lib.hid g1
  have G2 := Lib.hid g2
  have G3 := Lib.hid g3
  have hsl := sumOf_lt (hr.bytes.drop 4)
  have HSUM := Lib.hid hsum
  clear g1 g2 g3 hs hsum
  obtain ⟨b, off, rfl, hb, hcell⟩ := hr.at_ (by omega)
  have hr4 : RB w B (some ⟨b, off + 4, none⟩) 252 (l.drop 4) := hr.cut hcell 4 (by omega) hb
  have hr16 : RB w B (some ⟨b, off + 16, none⟩) 240 (l.drop 16) := hr.cut hcell 16 (by omega) hb
  clear hcell
  go_enter Tryd.func42, Tryd.ntmps42
  go_wp2_with fail
  refine (refGet_any _ _ _ _ _ 0 4 _ hr hc (by decide)).mono ?_
  rw [show getR l 0 4 = (numOf (l.take 4), 0) from G1.out]
  rintro e w1 ⟨rfl, rfl⟩
  go_wp2_with fail
  refine (refGet_any _ _ _ _ _ 4 4 _ hr hc (by decide)).mono ?_
  rw [show getR l 4 4 = (numOf ((l.drop 4).take 4), 0) from G2.out]
  rintro e w1 ⟨rfl, rfl⟩
  go_wp2_with fail
  refine (refGet_any _ _ _ _ _ 8 8 _ hr hc (by decide)).mono ?_
  rw [show getR l 8 8 = (numOf ((l.drop 8).take 8), 0) from G3.out]
  rintro e w1 ⟨rfl, rfl⟩
  go_wp2_with fail
  refine (refSum_any _ _ _ _ _ _ hr4 (by decide)).mono ?_
  rintro e w1 ⟨rfl, rfl⟩
  have hne : (numOf (l.take 4) != ((sumOf (l.drop 4) : Nat) : Int)) = false := by rw [HSUM.out]; simp
  go_wp2_with fail
  refine (refSecRight_any _ _ _).mono ?_
  rw [HS.out]
  rintro e w1 ⟨rfl, rfl⟩
  go_wp2_with (at_builtin; refine wpList_append_bytes rfl _ (.tmp 45) rfl w.heap.size _ 0 [] rfl (World.ownsRow_nil _ _ _ _) B _ 240 _ _ rfl hr16 (by omega) (Nat.le_refl _) ?_; intro v1 w1 hown1 _ hb1)
  simp only [Nat.zero_add, List.nil_append] at hown1
  exact bodyPost_ret (v := .tuple #[.int .i64 (numOf ((l.drop 4).take 4)), .int .i64 (numOf ((l.drop 8).take 8)), v1, .int .i64 0]) (by simp [results, Tryd.results42, go_sem]) rfl ⟨_, rfl, hown1, hb1⟩

set_option maxHeartbeats 1600000 in
theorem refUnpack_no (A : Option Addr) (n c B : Nat) (l : List Int) (w : World) (hr : RB w B A n l) (hc : n ≤ c) (hm : n ≤ maxLen) (h : ¬ isSec l) :
    Calls Tryd.prog 42 #[.slice A n c] w fun e w' => e = .returned (.tuple #[.int .i64 0, .int .i64 0, .slice none 0 0, .int .i64 4]) ∧ w = w' := by
  have hl := hr.len
  by_cases hn : n = 256
  · subst hn
    have g1 := getR_at (l := l) 0 4 (by decide) (by omega)
    have g2 := getR_at (l := l) 4 4 (by decide) (by omega)
    have g3 := getR_at (l := l) 8 8 (by decide) (by omega)
    rw [List.drop_zero] at g1
    have G1 := Lib.hid g1
    have G2 := Lib.hid g2
    have G3 := Lib.hid g3
    clear g1 g2 g3
    have hsl := sumOf_lt (hr.bytes.drop 4)
    obtain ⟨b, off, rfl, hb, hcell⟩ := hr.at_ (by omega)
    have hr4 : RB w B (some ⟨b, off + 4, none⟩) 252 (l.drop 4) := hr.cut hcell 4 (by omega) hb
    clear hcell
    by_cases hsum : numOf (l.take 4) = (sumOf (l.drop 4) : Int)
    · have hs : secR (numOf ((l.drop 4).take 4)) (numOf ((l.drop 8).take 8)) = false := by
        by_cases e : secR (numOf ((l.drop 4).take 4)) (numOf ((l.drop 8).take 8)) = true
        · exact absurd ⟨hl, hsum, e⟩ h
        · simpa using e
      have HS := Lib.hid hs
      have HSUM := Lib.hid hsum
      clear hs hsum h
      go_enter Tryd.func42, Tryd.ntmps42
      go_wp2_with fail
      refine (refGet_any _ _ _ _ _ 0 4 _ hr hc (by decide)).mono ?_
      rw [show getR l 0 4 = (numOf (l.take 4), 0) from G1.out]
      rintro e w1 ⟨rfl, rfl⟩
      go_wp2_with fail
      refine (refGet_any _ _ _ _ _ 4 4 _ hr hc (by decide)).mono ?_
      rw [show getR l 4 4 = (numOf ((l.drop 4).take 4), 0) from G2.out]
      rintro e w1 ⟨rfl, rfl⟩
      go_wp2_with fail
      refine (refGet_any _ _ _ _ _ 8 8 _ hr hc (by decide)).mono ?_
      rw [show getR l 8 8 = (numOf ((l.drop 8).take 8), 0) from G3.out]
      rintro e w1 ⟨rfl, rfl⟩
      go_wp2_with fail
      refine (refSum_any _ _ _ _ _ _ hr4 (by decide)).mono ?_
      rintro e w1 ⟨rfl, rfl⟩
      have hne : (numOf (l.take 4) != ((sumOf (l.drop 4) : Nat) : Int)) = false := by rw [HSUM.out]; simp
      go_wp2_with fail
      refine (refSecRight_any _ _ _).mono ?_
      rw [HS.out]
      rintro e w1 ⟨rfl, rfl⟩
      go_wp2
      exact bodyPost_ret (v := .tuple #[.int .i64 0, .int .i64 0, .slice none 0 0, .int .i64 4]) (by simp [results, Tryd.results42, go_sem]) rfl ⟨rfl, rfl⟩
    · have hne : (numOf (l.take 4) != ((sumOf (l.drop 4) : Nat) : Int)) = true := by simpa using hsum
      have HN := Lib.hid hne
      clear hsum h hne
      go_enter Tryd.func42, Tryd.ntmps42
      go_wp2_with fail
      refine (refGet_any _ _ _ _ _ 0 4 _ hr hc (by decide)).mono ?_
      rw [show getR l 0 4 = (numOf (l.take 4), 0) from G1.out]
      rintro e w1 ⟨rfl, rfl⟩
      go_wp2_with fail
      refine (refGet_any _ _ _ _ _ 4 4 _ hr hc (by decide)).mono ?_
      rw [show getR l 4 4 = (numOf ((l.drop 4).take 4), 0) from G2.out]
      rintro e w1 ⟨rfl, rfl⟩
      go_wp2_with fail
      refine (refGet_any _ _ _ _ _ 8 8 _ hr hc (by decide)).mono ?_
      rw [show getR l 8 8 = (numOf ((l.drop 8).take 8), 0) from G3.out]
      rintro e w1 ⟨rfl, rfl⟩
      go_wp2_with fail
      refine (refSum_any _ _ _ _ _ _ hr4 (by decide)).mono ?_
      rintro e w1 ⟨rfl, rfl⟩
      have hne := HN.out
      go_wp2
      exact bodyPost_ret (v := .tuple #[.int .i64 0, .int .i64 0, .slice none 0 0, .int .i64 4]) (by simp [results, Tryd.results42, go_sem]) rfl ⟨rfl, rfl⟩
  · have k : ((n : Int) != 256) = true := by simp; omega
    unfold maxLen at hm
    clear h
    go_enter Tryd.func42, Tryd.ntmps42
    go_wp2
    exact bodyPost_ret (v := .tuple #[.int .i64 0, .int .i64 0, .slice none 0 0, .int .i64 4]) (by simp [results, Tryd.results42, go_sem]) rfl ⟨rfl, rfl⟩

/-- The plain Unpack. -/
theorem refUnpack_any (A : Option Addr) (n c B : Nat) (l : List Int) (w : World) (hr : RB w B A n l) (hB : B ≤ w.heap.size) (hc : n ≤ c) (hm : n ≤ maxLen) :
    Calls Tryd.prog 42 #[.slice A n c] w fun e w' => ∃ A' n' c', e = .returned (.tuple #[.int .i64 (unpackR l).1, .int .i64 (unpackR l).2.1, .slice A' n' c', .int .i64 (unpackR l).2.2.2]) ∧ n' ≤ c' ∧ RB w' w'.heap.size A' n' (unpackR l).2.2.1 ∧ Below w.heap.size w w' := by
  unfold unpackR
  by_cases h : isSec l
  · rw [if_pos h]
    refine (refUnpack_yes A n c B l w hr hB hc h).mono ?_
    rintro e w' ⟨v, rfl, hown, hb⟩
    obtain ⟨A', c', rfl, hc', hr'⟩ := read_own hown (hr.bytes.drop 16)
    exact ⟨A', 240, c', rfl, hc', hr', hb⟩
  · rw [if_neg h]
    refine (refUnpack_no A n c B l w hr hc hm h).mono ?_
    rintro e w' ⟨rfl, rfl⟩
    exact ⟨none, 0, 0, rfl, Nat.le_refl _, RB.nil_, Below.refl _ _⟩

end Go.Proofs.YtkpmfobmlaldfaaDoor

/-
  bytes.Equal by its contract: whether two slices have the same bytes, nil and empty alike; nothing is written. No condition.
-/
namespace Go.Proofs.YtkpmfobmlaldfaaDoor
open Go.RowKit
set_option maxRecDepth 100000
set_option linter.unusedVariables false

theorem RB.conv {w : World} {B n : Nat} {A : Option Addr} {l : List Int} (h : RB w B A n l) (c : Nat) : (convert 69 9 (.slice A n c)).run Tryd.prog w = .ok (.string (strOfNums l)) w := by
  rcases Nat.eq_zero_or_pos n with hn | hn
  · subst hn
    obtain rfl : l = [] := List.eq_nil_of_length_eq_zero h.len
    rw [run_convert_bytes_string w 69 9 5 _ 0 c Tryd.underlying69 Tryd.underlying5 Tryd.underlying9]
    cases A <;> simp [Conv.bytesToString, loadCells]
    all_goals rfl
  · obtain ⟨b, off, rfl, _, hc⟩ := h.at_ hn
    exact run_convert_bytes_arg (P := Tryd.prog) w 69 5 Tryd.underlying69 Tryd.underlying5 b off n c l h.len (fun i hi => by rw [hc i hi]; simp) 9 Tryd.underlying9

theorem strOfNums_inj {l m : List Int} (hl : AllBytes l) (hm : AllBytes m) (h : (strOfNums l).toList = (strOfNums m).toList) : l = m := by
  have key : ∀ l : List Int, AllBytes l → l = (l.map fun n => UInt8.ofNat n.toNat).map (fun u => (u.toNat : Int)) := by
    intro l hl
    rw [List.map_map]
    conv => lhs; rw [← List.map_id l]
    refine List.map_congr_left fun x hx => ?_
    obtain ⟨a, b⟩ := hl x hx
    simp
    omega
  have e : ∀ l : List Int, (strOfNums l).toList = l.map fun n => UInt8.ofNat n.toNat := fun l => by rw [Lib.strOfNums_toList]; rfl
  rw [e, e] at h
  rw [key l hl, key m hm, h]

end Go.Proofs.YtkpmfobmlaldfaaDoor

/-
  What the program's own Right, Pack and Unpack of sectors are to answer, as statements: proved in a text of its own, used by the law's walks. Condition: the table that crc.Step reads holds what the program's text lays in it.
-/
namespace Go.Proofs.YtkpmfobmlaldfaaDoor
open Go.RowKit
set_option maxRecDepth 100000
set_option linter.unusedVariables false

def SecRightSaid : Prop := ∀ (p s : Int) (w : World), Calls Tryd.prog 61 #[.int .i64 p, .int .i64 s] w fun e w' => e = .returned (.bool (secR p s)) ∧ w = w'
def PackSaid : Prop := ∀ (A : Option Addr) (n c B : Nat) (l : List Int) (p s : Int) (w : World), RB w B A n l → B ≤ w.heap.size → n ≤ c → n ≤ 140737488355000 → Tab w → 0 < w.heap.size →
  Calls Tryd.prog 54 #[.int .i64 p, .int .i64 s, .slice A n c] w fun e w' => ∃ v, e = .returned (.tuple #[v, .int .i64 (packR p s l).2]) ∧ w'.ownsRow w.heap.size 5 1 v (packR p s l).1.length ((packR p s l).1.map (Value.int .u8)) ∧ Below w.heap.size w w'
def UnpackSaid : Prop := ∀ (A : Option Addr) (n c B : Nat) (l : List Int) (w : World), RB w B A n l → B ≤ w.heap.size → n ≤ c → n ≤ 140737488355000 → Tab w → 0 < w.heap.size →
  Calls Tryd.prog 37 #[.slice A n c] w fun e w' => ∃ A' n' c', e = .returned (.tuple #[.int .i64 (unpackR l).1, .int .i64 (unpackR l).2.1, .slice A' n' c', .int .i64 (unpackR l).2.2.2]) ∧ n' ≤ c' ∧ RB w' w'.heap.size A' n' (unpackR l).2.2.1 ∧ Below w.heap.size w w'

/-- Noughts. -/
def zeros (n : Nat) : List Int := List.replicate n 0
theorem zeros_length (n : Nat) : (zeros n).length = n := List.length_replicate ..
theorem zeros_bytes (n : Nat) : AllBytes (zeros n) := fun x hx => by
  obtain rfl := (List.mem_replicate.1 hx).2
  decide
theorem RB.made {w : World} {base g n : Nat} (h : w.ownsRow base 5 1 (.slice (some ⟨g, 0, none⟩) n n) n (madeCells (Value.int .u8 0).cells (n * 1)).toList) : RB w w.heap.size (some ⟨g, 0, none⟩) n (zeros n) := by
  refine RB.of_own (base := base) (e := 5) (c := n) ?_ (zeros_bytes n)
  rw [show (Value.int .u8 0).cells = #[Value.int .u8 0] from rfl, toList_madeCells_one, Nat.mul_one] at h
  rw [zeros, List.map_replicate]
  exact h

end Go.Proofs.YtkpmfobmlaldfaaDoor

/-
  Contracts of the plain log's mark and Format over the plain disk. Conditions: a count and a seq that may stand in a sector; fewer than 2^63 - 1 writes.
-/
namespace Go.Proofs.YtkpmfobmlaldfaaDoor
open Go.RowKit
set_option maxRecDepth 100000
set_option linter.unusedVariables false

section
variable {w w1 w2 : World} {G G1 : Nat → Prop} {x : Addr} {S S1 S2 : DS}

theorem Wrote.join (ht : Touch G w w1) (hG : ∀ k, G1 k → G k ∨ w.heap.size ≤ k) (h : Wrote w1 G1 x S2 w2) : Wrote w G x S2 w2 := by
  obtain ⟨G2, h1, h2, h3⟩ := h
  refine ⟨G2, h1, ⟨h2.os.trans ht.os, h2.tape.trans ht.tape, h2.output.trans ht.output, Nat.le_trans ht.size h2.size, fun k hk hF => (h2.block k (Nat.lt_of_lt_of_le hk ht.size) (fun hf => ?_)).trans (ht.block k hk hF)⟩, fun k hk => ?_⟩
  · rcases hG k hf with a | a
    · exact hF a
    · omega
  · rcases h3 k hk with a | a
    · exact hG k a
    · exact .inr (Nat.le_trans ht.size a)
theorem Wrote.below (h : Wrote w G x S w1) (hb : Below w1.heap.size w1 w2) : Wrote w G x S w2 := by
  obtain ⟨G1, h1, h2, h3⟩ := h
  exact ⟨G1, h1.keep (fun k hk => hb.block k (h1.lt k hk)), ⟨hb.os.trans h2.os, hb.tape.trans h2.tape, hb.output.trans h2.output, Nat.le_trans h2.size hb.size, fun k hk hF => (hb.block k (Nat.lt_of_lt_of_le hk h2.size)).trans (h2.block k hk hF)⟩, h3⟩
theorem Wrote.later (h : RefAt w G x S) (hb : Below w.heap.size w w1) : Wrote w G x S w1 := h.same.below hb

theorem own_some {w : World} {base e n : Nat} {v : Value} {xs : List Value} (h : w.ownsRow base e 1 v n xs) (hn : 0 < n) : ∃ g c, v = .slice (some ⟨g, 0, none⟩) n c ∧ n ≤ c ∧ base ≤ g := by
  rcases h.2 with ⟨_, h0⟩ | ⟨g, cap, cur, rfl, hb, _, hc, _⟩
  · omega
  · exact ⟨g, cap, rfl, hc, hb⟩
theorem packR_sec {c s : Int} (h : secR c s = true) {l : List Int} (hl : l.length = 240) : (packR c s l).1 = secL c s l := by unfold packR; rw [if_pos ⟨h, hl⟩]
theorem markS_sec (S : DS) {c s : Int} (h : secR c s = true) : markS S c s = thenS (S.wr 0 (secL c s zpage)) DS.fl := by unfold markS; rw [packR_sec h zpage_ok.1]
theorem thenS_ok {r : Int × DS} {f : DS → Int × DS} (h : r.1 = 0) : thenS r f = f r.2 := if_pos h
theorem thenS_no {r : Int × DS} {f : DS → Int × DS} (h : r.1 ≠ 0) : thenS r f = r := if_neg h
theorem writeE_le (S : DS) (i : Int) (l : List Int) : 0 ≤ S.writeE i l ∧ S.writeE i l ≤ 5 := by
  unfold DS.writeE
  split
  · omega
  split
  · omega
  split <;> omega

set_option maxHeartbeats 1600000 in
theorem refMark_any (h : RefAt w G x S) (count seq : Int) (hs : secR count seq = true) (hw : S.writes ≤ 9223372036854775806) :
    Calls Tryd.prog 40 #[.pointer (some x), .int .i64 count, .int .i64 seq] w fun e w' => e = .returned (.int .i64 (markS S count seq).1) ∧ Wrote w G x (markS S count seq).2 w' := by
  obtain ⟨i0, hi, hz0, hz1, hz2⟩ := info_parts info_u8
  rw [markS_sec S hs]
  have hlt := h.lt
  have hsl : (secL count seq zpage).length = 256 := by rw [secL_length, zpage_ok.1]
  have hsb := secL_bytes count seq zpage_ok.2
  have HS := Lib.hid hs
  have HH := Lib.hid h
  clear hs h
  go_enter Tryd.func40, Tryd.ntmps40
  go_wp2_with (refine wpList_make_full w rfl _ _ 69 rfl w.heap.size 5 i0 (.int .u8 0) 1 Tryd.underlying69 hi hz0 hz1 .i64 .i64 _ _ 240 rfl rfl rfl rfl (by rw [hz2]; decide) (by decide) (Nat.le_refl _) ?_; intro w1 hown1 hg1; have hb1 : Below w.heap.size w w1 := (Below.refl _ _).grown hg1 (Nat.le_refl _) (by simp); have hr1 := RB.made hown1; clear hown1 hg1)
  refine (refPack_yes _ _ _ _ zpage count seq _ hr1 (Nat.le_refl _) rfl HS.out).mono ?_
  rintro e w2 ⟨v2, rfl, hown2, hb2⟩
  obtain ⟨g, c, rfl, hc, hg⟩ := own_some hown2 (by decide)
  have hr2 : RB w2 w2.heap.size (some ⟨g, 0, none⟩) 256 (secL count seq zpage) := RB.of_own hown2 hsb
  have hb02 := hb1.trans (hb2.mono hb1.size)
  have hR2 : RefAt w2 G x S := HH.out.keep (fun k hk => hb02.block k (hlt k hk))
  have hgG : ¬ G g := fun hf => by have := hlt g hf; have := hb1.size; omega
  have HT := Lib.hid (Touch.of_below (F := G) hb02)
  have HW := Lib.hid (refWrite_any hR2 0 g 0 256 c _ _ hr2 (Nat.le_refl _) hgG (by decide) hw)
  clear hown2 hr1 hb1 hb2 hb02 hR2 hr2 hgG
  by_cases h0 : S.writeE 0 (secL count seq zpage) = 0
  · have e0 := thenS_ok (r := S.wr 0 (secL count seq zpage)) (f := DS.fl) h0
    have E0 := Lib.hid e0
    have H0 := Lib.hid h0
    clear e0 h0
    go_wp2_with fail
    refine HW.out.mono ?_
    rw [H0.out]
    rintro e w3 ⟨rfl, G3, hR3, hT3, hG3⟩
    have hj := Wrote.join HT.out (fun k hk => .inl hk) ⟨G3, hR3, hT3, hG3⟩
    obtain ⟨G4, hR4, hT4, hG4⟩ := hj
    go_wp2_with fail
    refine (refFlush_any hR4).mono ?_
    rintro e w5 ⟨rfl, hW5⟩
    have hF := Lib.hid (Wrote.join hT4 hG4 hW5)
    clear hR3 hT3 hG3 hR4 hT4 hG4 hW5
    go_wp2
    go_ret
    rw [E0.out]
    exact ⟨rfl, hF.out⟩
  · have e0 := thenS_no (r := S.wr 0 (secL count seq zpage)) (f := DS.fl) h0
    have E0 := Lib.hid e0
    have kne : (S.writeE 0 (secL count seq zpage) != 0) = true := by simpa using h0
    have KN := Lib.hid kne
    clear e0 h0 kne
    go_wp2_with fail
    refine HW.out.mono ?_
    rintro e w3 ⟨rfl, hW3⟩
    have hF := Lib.hid (Wrote.join HT.out (fun k hk => .inl hk) hW3)
    have kne := KN.out
    clear hW3
    go_wp2
    go_ret
    rw [E0.out]
    exact ⟨rfl, hF.out⟩

theorem refFormat_any (h : RefAt w G x S) (hw : S.writes ≤ 9223372036854775806) :
    Calls Tryd.prog 18 #[.pointer (some x)] w fun e w' => e = .returned (.int .i64 (markS S 0 1).1) ∧ Wrote w G x (markS S 0 1).2 w' := by
  have HM := Lib.hid (refMark_any h 0 1 (by decide) hw)
  clear h
  go_enter Tryd.func18, Tryd.ntmps18
  go_wp2_with fail
  refine HM.out.mono ?_
  rintro e w1 ⟨rfl, h1⟩
  go_wp2
  go_ret
  exact ⟨rfl, h1⟩
end

end Go.Proofs.YtkpmfobmlaldfaaDoor

/-
  append of one int onto a row of the call's own, for the walk; what such a row reads as. Condition: fewer than 2^43 ints.
-/
namespace Go.Proofs.YtkpmfobmlaldfaaDoor
open Go.RowKit
set_option maxRecDepth 100000
set_option linter.unusedVariables false

theorem info_int : (Tryd.prog.info? 3).map (fun i => (i.zero, i.size, i.bytes)) = some (some (.int .i64 0), 1, 8) := by kernel_rfl

theorem RI.of_own {w : World} {base e c n : Nat} {A : Option Addr} {l : List Int} (h : w.ownsRow base e 1 (.slice A n c) n (l.map (Value.int .i64))) (hl : ∀ x ∈ l, -9223372036854775808 ≤ x ∧ x ≤ 9223372036854775807) : RI w w.heap.size A n l ∧ (0 < n → ∀ a, A = some a → base ≤ a.block) := by
  have hlen : l.length = n := by simpa using h.1
  rcases h.2 with ⟨_, h0⟩ | ⟨g, cap, cur, hv, hbg, hg, _, _, _, htake⟩
  · exact ⟨⟨hlen, hl, fun hn => by omega⟩, fun hn => by omega⟩
  · have hA : A = some ⟨g, 0, none⟩ := by injection hv
    subst hA
    have hlt : g < w.heap.size := by
      rcases Nat.lt_or_ge g w.heap.size with h' | h'
      · exact h'
      · rw [Array.getElem?_eq_none h'] at hg; cases hg
    refine ⟨⟨hlen, hl, fun _ => ⟨g, 0, rfl, hlt, fun j hj => ?_⟩⟩, fun _ a ha => by cases ha; exact hbg⟩
    have e1 : (l.map (Value.int .i64))[j]? = some (.int .i64 (l[j]?.getD 0)) := by simp [List.getElem?_eq_getElem (show j < l.length by omega)]
    rw [Nat.zero_add, cell_of_row w g j cur e (0, 0) hg, ← e1, ← htake, List.getElem?_take, if_pos (by omega)]
    simp
theorem int_own_ge {w : World} {base e size n : Nat} {v : Value} {xs : List Value} (h : w.ownsRow base e size v n xs) : ∀ k, v.ownBlock = some k → base ≤ k := by
  intro k hk
  rcases h.2 with ⟨rfl, _⟩ | ⟨g, cap, cur, rfl, hb, _⟩
  · simp [Value.ownBlock] at hk
  · simp [Value.ownBlock] at hk; omega
theorem int_own_shape {w : World} {base e n : Nat} {v : Value} {xs : List Value} (h : w.ownsRow base e 1 v n xs) : ∃ A c, v = .slice A n c ∧ n ≤ c := by
  rcases h.2 with ⟨rfl, rfl⟩ | ⟨g, cap, cur, rfl, hb, _, hnc, _⟩
  · exact ⟨none, 0, rfl, Nat.le_refl _⟩
  · exact ⟨_, cap, rfl, hnc⟩

theorem wpList_append_int {w : World} {ops : Array Oper} {rest : List Oper} {o : Oper} {a : Act} {Q : Exit → Act → World → Prop} (hgd : o.guard = none) (s x : Operand)
    (ho : o.op = .call { callee := .builtin .append, args := #[s, x], argTypes := #[22, 22] })
    (base : Nat) (v : Value) (n : Nat) (xs : List Int) (hs : a.eval s = v) (b : Nat) (z : Int) (T : TypeId) (hx : a.eval x = .slice (some ⟨b, 0, none⟩) 1 1)
    (hown : w.ownsRow base 3 1 v n (xs.map (Value.int .i64))) (hb : w.heap[b]? = some (.cells #[.int .i64 z] T))
    (h63 : n ≤ 8796093022208) (hbase : base ≤ w.heap.size)
    (h : ∀ v' w', w'.ownsRow base 3 1 v' (n + 1) ((xs ++ [z]).map (Value.int .i64)) → Below base w w' → wpList Tryd.prog ops Q rest (a.put o.dst v') w') : wpList Tryd.prog ops Q (o :: rest) a w := by
  obtain ⟨i0, hi, hz0, hz1, hz2⟩ := info_parts info_int
  refine wpList_append_own w hgd s x 22 ho base 3 i0 (.int .i64 0) 1 8 Tryd.underlying22 hi hz0 hz1 hz2 rfl (by decide) v n _ hs hown ⟨b, 0, none⟩ 1 1 [.int .i64 z] hx rfl (World.news_of_block (cs := #[.int .i64 z]) hb) (fun u hu => by obtain rfl := List.mem_singleton.1 hu; rfl) (by unfold maxLen; omega) (by omega) hbase ?_
  intro v' w' h1 h2 _
  exact h v' w' (by simpa using h1) ((Below.refl base w).grown h2 hbase (int_own_ge hown))

end Go.Proofs.YtkpmfobmlaldfaaDoor

/-
  Words for the plain log's two lists: of sectors (slices of bytes) and of pages (ints), as they are built by append; what keeps them. Plain facts; no condition beyond what each says.
-/
namespace Go.Proofs.YtkpmfobmlaldfaaDoor
open Go.RowKit
set_option maxRecDepth 100000
set_option linter.unusedVariables false

theorem info_slice : (Tryd.prog.info? 69).map (fun i => (i.zero, i.size, i.bytes)) = some (some (.slice none 0 0), 1, 24) := by kernel_rfl

theorem own_at {w : World} {base e size m : Nat} {v : Value} {xs : List Value} (h : w.ownsRow base e size v m xs) : ∀ g, v.ownBlock = some g → base ≤ g ∧ g < w.heap.size := by
  intro g hg
  rcases h.2 with ⟨rfl, _⟩ | ⟨g', cap, cur, rfl, hb, hh, _⟩
  · simp [Value.ownBlock] at hg
  · simp [Value.ownBlock] at hg
    subst hg
    exact ⟨hb, (Array.getElem?_eq_some_iff.1 hh).1⟩
theorem own_stays {w w' : World} {base e size m : Nat} {v : Value} {xs : List Value} (h : w.ownsRow base e size v m xs) (hk : ∀ g, v.ownBlock = some g → w'.heap[g]? = w.heap[g]?) : w'.ownsRow base e size v m xs := by
  rcases h.2 with h' | ⟨g, cap, cur, rfl, hg, hb, h3⟩
  · exact ⟨h.1, .inl h'⟩
  · exact ⟨h.1, .inr ⟨g, cap, cur, rfl, hg, (hk g (by simp [Value.ownBlock])).trans hb, h3⟩⟩
theorem RB.there {w w' : World} {g n : Nat} {l : List Int} (h : RB w w.heap.size (some ⟨g, 0, none⟩) n l) (hn : 0 < n) (e : w'.heap[g]? = w.heap[g]?) (hs : w.heap.size ≤ w'.heap.size) : RB w' w'.heap.size (some ⟨g, 0, none⟩) n l := by
  obtain ⟨b, off, e', hb, hc⟩ := h.at_ hn
  cases e'
  exact ⟨h.1, h.2.1, fun _ => ⟨g, 0, rfl, by omega, fun j hj => (World.cell?_of_block (a := ⟨g, 0 + j, none⟩) e).trans (hc j hj)⟩⟩

/-- A sector's slice that lies apart from the disk's blocks G and from two rows. -/
def Apart (w : World) (G : Nat → Prop) (ov pv u : Value) (b : List Int) : Prop :=
  ∃ g c, u = .slice (some ⟨g, 0, none⟩) 256 c ∧ 256 ≤ c ∧ ¬ G g ∧ ov.ownBlock ≠ some g ∧ pv.ownBlock ≠ some g ∧ g < w.heap.size ∧ RB w w.heap.size (some ⟨g, 0, none⟩) 256 b

/-- The two lists, l of them, in rows from block base on, apart from the blocks G. -/
structure TwoRows (w : World) (G : Nat → Prop) (base : Nat) (ov pv : Value) (l : List (Int × List Int)) : Prop where
  out : ∃ vs, w.ownsRow base 69 1 ov l.length vs ∧ ∀ (i : Nat) (x : Int × List Int), l[i]? = some x → ∃ u, vs[i]? = some u ∧ Apart w G ov pv u x.2
  pages : w.ownsRow base 3 1 pv l.length ((l.map (·.1)).map (Value.int .i64))
  og : ∀ r, ov.ownBlock = some r → ¬ G r
  pg : ∀ r, pv.ownBlock = some r → ¬ G r

section
variable {w w' : World} {G G' : Nat → Prop} {base : Nat} {ov pv : Value} {l : List (Int × List Int)}

theorem TwoRows.start (w : World) (G : Nat → Prop) (base : Nat) : TwoRows w G base (.slice none 0 0) (.slice none 0 0) [] :=
  ⟨⟨[], ⟨rfl, .inl ⟨rfl, rfl⟩⟩, fun i x h => by simp at h⟩, ⟨rfl, .inl ⟨rfl, rfl⟩⟩, fun r h => by simp [Value.ownBlock] at h, fun r h => by simp [Value.ownBlock] at h⟩

/-- Blocks that are not G's, and were there, stand. -/
theorem TwoRows.keep (h : TwoRows w G base ov pv l) (hs : w.heap.size ≤ w'.heap.size) (hG : ∀ k, k < w.heap.size → ¬ G k → ¬ G' k) (hk : ∀ k, k < w.heap.size → ¬ G k → w'.heap[k]? = w.heap[k]?) : TwoRows w' G' base ov pv l := by
  obtain ⟨vs, h1, h2⟩ := h.out
  refine ⟨⟨vs, own_stays h1 (fun g hg => hk g (own_at h1 g hg).2 (h.og g hg)), fun i x hx => ?_⟩, own_stays h.pages (fun g hg => hk g (own_at h.pages g hg).2 (h.pg g hg)), fun r hr => hG r (own_at h1 r hr).2 (h.og r hr), fun r hr => hG r (own_at h.pages r hr).2 (h.pg r hr)⟩
  obtain ⟨u, h3, g, c, h4, h5, h6, h7, h8, h9, h10⟩ := h2 i x hx
  exact ⟨u, h3, g, c, h4, h5, hG g h9 h6, h7, h8, by omega, h10.there (by decide) (hk g h9 h6) hs⟩
theorem TwoRows.below (h : TwoRows w G base ov pv l) (hb : Below w.heap.size w w') : TwoRows w' G base ov pv l := h.keep hb.size (fun _ _ h => h) (fun k hk _ => hb.block k hk)
theorem TwoRows.touch (h : TwoRows w G base ov pv l) (ht : Touch G w w') (hG : ∀ k, G' k → G k ∨ w.heap.size ≤ k) : TwoRows w' G' base ov pv l :=
  h.keep ht.size (fun k hk hn hg => by
    rcases hG k hg with a | a
    · exact hn a
    · omega) (fun k hk hn => ht.block k hk hn)

/-- The list of pages behind the append to the other list. -/
theorem TwoRows.pages1 {w1 : World} {o : Obj} {m : Nat} {vs : List Value} (h : TwoRows w G base ov pv l) (hvs : w.ownsRow base 69 1 ov m vs) (hg1 : (w.alloc o).grownBy w1 ov.ownBlock) : w1.ownsRow base 3 1 pv l.length ((l.map (·.1)).map (Value.int .i64)) := by
  refine own_stays h.pages (fun r hr => ?_)
  have hlt := (own_at h.pages r hr).2
  refine (hg1.block r (by simp; omega) (fun e => ?_)).trans (heap_alloc_old w _ hlt)
  rcases hvs.2 with ⟨rfl, _⟩ | ⟨g', cap, cur, rfl, _, hh, _⟩
  · simp [Value.ownBlock] at e
  · simp [Value.ownBlock] at e
    subst e
    rcases h.pages.2 with ⟨rfl, _⟩ | ⟨g2, cap2, cur2, rfl, _, hh2, _⟩
    · simp [Value.ownBlock] at hr
    · simp [Value.ownBlock] at hr
      subst hr
      rw [hh] at hh2
      simp at hh2

theorem TwoRows.pages2 {X w1 : World} {m : Nat} {vs : List Value} (h : TwoRows w G base ov pv l) (hvs : w.ownsRow base 69 1 ov m vs) (hX : Below w.heap.size w X) (hg1 : X.grownBy w1 ov.ownBlock) : w1.ownsRow base 3 1 pv l.length ((l.map (·.1)).map (Value.int .i64)) := by
  refine own_stays h.pages (fun r hr => ?_)
  have hlt := (own_at h.pages r hr).2
  refine (hg1.block r (Nat.lt_of_lt_of_le hlt hX.size) (fun e => ?_)).trans (hX.block r hlt)
  rcases hvs.2 with ⟨rfl, _⟩ | ⟨g', cap, cur, rfl, _, hh, _⟩
  · simp [Value.ownBlock] at e
  · simp [Value.ownBlock] at e
    subst e
    rcases h.pages.2 with ⟨rfl, _⟩ | ⟨g2, cap2, cur2, rfl, _, hh2, _⟩
    · simp [Value.ownBlock] at hr
    · simp [Value.ownBlock] at hr
      subst hr
      rw [hh] at hh2
      simp at hh2

/-- What stands at a place of both lists. -/
theorem TwoRows.at_ (h : TwoRows w G base ov pv l) {k : Nat} {y : Int × List Int} (hy : l[k]? = some y) : ∃ r c r' c' g cg, ov = .slice (some ⟨r, 0, none⟩) l.length c ∧ pv = .slice (some ⟨r', 0, none⟩) l.length c' ∧ w.cell? ⟨r, k, none⟩ = some (.slice (some ⟨g, 0, none⟩) 256 cg) ∧ w.cell? ⟨r', k, none⟩ = some (.int .i64 y.1) ∧ 256 ≤ cg ∧ ¬ G g ∧ g < w.heap.size ∧ RB w w.heap.size (some ⟨g, 0, none⟩) 256 y.2 := by
  have hk := (List.getElem?_eq_some_iff.1 hy).1
  obtain ⟨vs, h1, h2⟩ := h.out
  obtain ⟨u, h3, g, cg, rfl, h5, h6, _, _, h9, h10⟩ := h2 k y hy
  rcases h1.2 with ⟨_, h0⟩ | ⟨r, cap, cur, rfl, _, hb, _, _, _, htake⟩
  · omega
  rcases h.pages.2 with ⟨_, h0⟩ | ⟨r', cap', cur', rfl, _, hb', _, _, _, htake'⟩
  · omega
  refine ⟨r, cap, r', cap', g, cg, rfl, rfl, ?_, ?_, h5, h6, h9, h10⟩
  · rw [cell_of_row w r k cur _ (0, 0) hb, ← h3, ← htake, List.getElem?_take, if_pos (by omega)]
    simp
  · have e : ((l.map (·.1)).map (Value.int .i64))[k]? = some (.int .i64 y.1) := by rw [List.getElem?_map, List.getElem?_map, hy]; rfl
    rw [cell_of_row w r' k cur' _ (0, 0) hb', ← e, ← htake', List.getElem?_take, if_pos (by omega)]
    simp

/-- Both lists have one more: new blocks are laid ahead of each append. -/
theorem TwoRows.push2 {Xa w1 Xb w2 : World} {ov' pv' : Value} {p : Int} {b : List Int} {g c : Nat} (h : TwoRows w G base ov pv l) (hGlt : ∀ k, G k → k < w.heap.size) (hap : Apart w G ov pv (.slice (some ⟨g, 0, none⟩) 256 c) b) {vs : List Value} (hvs : w.ownsRow base 69 1 ov l.length vs) (hvl : ∀ (i : Nat) (x : Int × List Int), l[i]? = some x → ∃ u, vs[i]? = some u ∧ Apart w G ov pv u x.2)
    (hXa : Below w.heap.size w Xa) (hown1 : w1.ownsRow base 69 1 ov' (l.length + 1) (vs ++ [.slice (some ⟨g, 0, none⟩) 256 c])) (hg1 : Xa.grownBy w1 ov.ownBlock) (hl1 : ov'.ownBlock = ov.ownBlock ∨ ∃ r, ov'.ownBlock = some r ∧ w.heap.size ≤ r)
    (hXb : Below w1.heap.size w1 Xb) (hown2 : w2.ownsRow base 3 1 pv' (l.length + 1) (((l.map (·.1)) ++ [p]).map (Value.int .i64))) (hg2 : Xb.grownBy w2 pv.ownBlock) (hl2 : pv'.ownBlock = pv.ownBlock ∨ ∃ r, pv'.ownBlock = some r ∧ w1.heap.size ≤ r) :
    TwoRows w2 G base ov' pv' (l ++ [(p, b)]) ∧ w.heap.size ≤ w2.heap.size ∧ ∀ k, k < w.heap.size → ov.ownBlock ≠ some k → pv.ownBlock ≠ some k → w2.heap[k]? = w.heap[k]? := by
  have s0 := hXa.size
  have s1 : w.heap.size ≤ w1.heap.size := Nat.le_trans s0 hg1.size
  have s2 : w1.heap.size ≤ w2.heap.size := Nat.le_trans hXb.size hg2.size
  have hb1 : ∀ k, k < w.heap.size → ov.ownBlock ≠ some k → w1.heap[k]? = w.heap[k]? := fun k hk hne => (hg1.block k (by omega) (fun e => hne e.symm)).trans (hXa.block k hk)
  have hb2 : ∀ k, k < w1.heap.size → pv.ownBlock ≠ some k → w2.heap[k]? = w1.heap[k]? := fun k hk hne => (hg2.block k (Nat.lt_of_lt_of_le hk hXb.size) (fun e => hne e.symm)).trans (hXb.block k hk)
  have hall : ∀ k, k < w.heap.size → ov.ownBlock ≠ some k → pv.ownBlock ≠ some k → w2.heap[k]? = w.heap[k]? := fun k hk h1 h2 => (hb2 k (by omega) h2).trans (hb1 k hk h1)
  have hodd : ∀ r, ov.ownBlock = some r → pv.ownBlock ≠ some r := fun r h1 h2 => by
    rcases hvs.2 with ⟨rfl, _⟩ | ⟨g', cap, cur, rfl, _, hh, _⟩
    · simp [Value.ownBlock] at h1
    · simp [Value.ownBlock] at h1
      subst h1
      rcases h.pages.2 with ⟨rfl, _⟩ | ⟨g2, cap2, cur2, rfl, _, hh2, _⟩
      · simp [Value.ownBlock] at h2
      · simp [Value.ownBlock] at h2
        subst h2
        rw [hh] at hh2
        simp at hh2
  have apart : ∀ {u : Value} {y : List Int}, Apart w G ov pv u y → Apart w2 G ov' pv' u y := fun {u y} ha => by
    obtain ⟨g, c, h4, h5, h6, h7, h8, h9, h10⟩ := ha
    refine ⟨g, c, h4, h5, h6, fun e => ?_, fun e => ?_, by omega, h10.there (by decide) (hall g h9 h7 h8) (by omega)⟩
    · rcases hl1 with a | ⟨rr, a, hrr⟩
      · exact h7 (a.symm.trans e)
      · rw [a] at e; injection e with e; omega
    · rcases hl2 with a | ⟨rr, a, hrr⟩
      · exact h8 (a.symm.trans e)
      · rw [a] at e; injection e with e; omega
  have hlen : (l ++ [(p, b)]).length = l.length + 1 := by simp
  have hvlen : vs.length = l.length := by have := hvs.1; simpa using this
  refine ⟨⟨⟨vs ++ [.slice (some ⟨g, 0, none⟩) 256 c], ?_, fun i x hx => ?_⟩, ?_, fun r hr => ?_, fun r hr => ?_⟩, by omega, hall⟩
  · rw [hlen]
    refine own_stays hown1 (fun r hr => ?_)
    have hr1 := (own_at hown1 r hr).2
    refine hb2 r hr1 ?_
    rcases hl1 with a | ⟨rr, a, hrr⟩
    · exact hodd r (a.symm.trans hr)
    · rw [a] at hr
      injection hr with hr
      intro e
      have := (own_at h.pages r e).2
      omega
  · rcases Nat.lt_or_ge i l.length with hi | hi
    · rw [List.getElem?_append_left hi] at hx
      obtain ⟨u, h3, h4⟩ := hvl i x hx
      exact ⟨u, by rw [List.getElem?_append_left (by omega)]; exact h3, apart h4⟩
    · rw [List.getElem?_append_right hi] at hx
      have hi0 : i - l.length = 0 := by
        have := (List.getElem?_eq_some_iff.1 hx).1
        simp at this
        omega
      rw [hi0] at hx
      obtain rfl : (p, b) = x := by simpa using hx
      exact ⟨_, by rw [List.getElem?_append_right (by omega), hvlen, hi0]; rfl, apart hap⟩
  · rw [hlen, List.map_append]
    exact hown2
  · rcases hl1 with a | ⟨rr, a, hrr⟩
    · exact h.og r (a.symm.trans hr)
    · rw [a] at hr
      injection hr with hr
      intro hg
      have := hGlt r hg
      omega
  · rcases hl2 with a | ⟨rr, a, hrr⟩
    · exact h.pg r (a.symm.trans hr)
    · rw [a] at hr
      injection hr with hr
      intro hg
      have := hGlt r hg
      omega

/-- Both lists have one more. -/
theorem TwoRows.push {w1 w2 : World} {ov' pv' : Value} {p : Int} {b : List Int} {g c : Nat} {T T' : TypeId} (h : TwoRows w G base ov pv l) (hGlt : ∀ k, G k → k < w.heap.size) (hap : Apart w G ov pv (.slice (some ⟨g, 0, none⟩) 256 c) b) {vs : List Value} (hvs : w.ownsRow base 69 1 ov l.length vs) (hvl : ∀ (i : Nat) (x : Int × List Int), l[i]? = some x → ∃ u, vs[i]? = some u ∧ Apart w G ov pv u x.2)
    (hown1 : w1.ownsRow base 69 1 ov' (l.length + 1) (vs ++ [.slice (some ⟨g, 0, none⟩) 256 c])) (hg1 : (w.alloc (.cells #[.slice (some ⟨g, 0, none⟩) 256 c] T)).grownBy w1 ov.ownBlock) (hl1 : ov'.ownBlock = ov.ownBlock ∨ ov'.ownBlock = some (w.heap.size + 1))
    (hown2 : w2.ownsRow base 3 1 pv' (l.length + 1) (((l.map (·.1)) ++ [p]).map (Value.int .i64))) (hg2 : (w1.alloc (.cells #[.int .i64 p] T')).grownBy w2 pv.ownBlock) (hl2 : pv'.ownBlock = pv.ownBlock ∨ pv'.ownBlock = some (w1.heap.size + 1)) :
    TwoRows w2 G base ov' pv' (l ++ [(p, b)]) ∧ w.heap.size ≤ w2.heap.size ∧ ∀ k, k < w.heap.size → ov.ownBlock ≠ some k → pv.ownBlock ≠ some k → w2.heap[k]? = w.heap[k]? :=
  h.push2 hGlt hap hvs hvl ((Below.refl _ _).alloc (Nat.le_refl _) _) hown1 hg1 (hl1.imp id (fun e => ⟨_, e, by omega⟩)) ((Below.refl _ _).alloc (Nat.le_refl _) _) hown2 hg2 (hl2.imp id (fun e => ⟨_, e, by omega⟩))
end

end Go.Proofs.YtkpmfobmlaldfaaDoor

/-
  Contracts of the plain log's slots, over the plain disk. Condition: the disk is up; a count below 2^33.
-/
namespace Go.Proofs.YtkpmfobmlaldfaaDoor
open Go.RowKit
set_option maxRecDepth 100000
set_option linter.unusedVariables false

theorem wpList_append_int1 {w : World} {ops : Array Oper} {rest : List Oper} {o : Oper} {a : Act} {Q : Exit → Act → World → Prop} (hgd : o.guard = none) (s x : Operand)
    (ho : o.op = .call { callee := .builtin .append, args := #[s, x], argTypes := #[22, 22] })
    (base : Nat) (v : Value) (n : Nat) (xs : List Value) (hs : a.eval s = v) (b : Nat) (z : Int) (T : TypeId) (hx : a.eval x = .slice (some ⟨b, 0, none⟩) 1 1)
    (hown : w.ownsRow base 3 1 v n xs) (hb : w.heap[b]? = some (.cells #[.int .i64 z] T)) (h63 : n ≤ 8796093022207) (hbase : base ≤ w.heap.size)
    (h : ∀ A' c' w', w'.ownsRow base 3 1 (.slice A' (n + 1) c') (n + 1) (xs ++ [.int .i64 z]) → w.grownBy w' v.ownBlock → ((Value.slice A' (n + 1) c').ownBlock = v.ownBlock ∨ (Value.slice A' (n + 1) c').ownBlock = some w.heap.size) → wpList Tryd.prog ops Q rest (a.put o.dst (.slice A' (n + 1) c')) w') : wpList Tryd.prog ops Q (o :: rest) a w := by
  obtain ⟨i0, hi, hz0, hz1, hz2⟩ := info_parts info_int
  refine wpList_append_own_at w hgd s x 22 ho base 3 i0 (.int .i64 0) 1 8 Tryd.underlying22 hi hz0 hz1 hz2 rfl (by decide) v n _ hs hown ⟨b, 0, none⟩ 1 1 [.int .i64 z] hx rfl (World.news_of_block (cs := #[.int .i64 z]) hb) (fun u hu => by obtain rfl := List.mem_singleton.1 hu; rfl) (by unfold maxLen; omega) (by omega) hbase ?_
  intro v' w' h1 h2 _ h4
  obtain ⟨A', c', rfl, _⟩ := int_own_shape h1
  exact h A' c' w' h1 h2 h4
theorem wpList_append_slice1 {w : World} {ops : Array Oper} {rest : List Oper} {o : Oper} {a : Act} {Q : Exit → Act → World → Prop} (hgd : o.guard = none) (s x : Operand)
    (ho : o.op = .call { callee := .builtin .append, args := #[s, x], argTypes := #[96, 96] })
    (base : Nat) (v : Value) (n : Nat) (xs : List Value) (hs : a.eval s = v) (b : Nat) (A : Option Addr) (k c : Nat) (T : TypeId) (hx : a.eval x = .slice (some ⟨b, 0, none⟩) 1 1)
    (hown : w.ownsRow base 69 1 v n xs) (hb : w.heap[b]? = some (.cells #[.slice A k c] T)) (h63 : n ≤ 4398046511103) (hbase : base ≤ w.heap.size)
    (h : ∀ A' c' w', w'.ownsRow base 69 1 (.slice A' (n + 1) c') (n + 1) (xs ++ [.slice A k c]) → w.grownBy w' v.ownBlock → ((Value.slice A' (n + 1) c').ownBlock = v.ownBlock ∨ (Value.slice A' (n + 1) c').ownBlock = some w.heap.size) → wpList Tryd.prog ops Q rest (a.put o.dst (.slice A' (n + 1) c')) w') : wpList Tryd.prog ops Q (o :: rest) a w := by
  obtain ⟨i0, hi, hz0, hz1, hz2⟩ := info_parts info_slice
  refine wpList_append_own_at w hgd s x 96 ho base 69 i0 (.slice none 0 0) 1 24 Tryd.underlying96 hi hz0 hz1 hz2 rfl (by decide) v n _ hs hown ⟨b, 0, none⟩ 1 1 [.slice A k c] hx rfl (World.news_of_block (cs := #[.slice A k c]) hb) (fun u hu => by obtain rfl := List.mem_singleton.1 hu; rfl) (by unfold maxLen; omega) (by omega) hbase ?_
  intro v' w' h1 h2 _ h4
  obtain ⟨A', c', rfl, _⟩ := int_own_shape h1
  exact h A' c' w' h1 h2 h4

theorem slotsUp_none {n seq : Int} {f : Nat → List Int} {k m : Nat} (h : slotsUp n f seq k = none) (hkm : k ≤ m) : slotsUp n f seq m = none := by
  induction hkm with
  | refl => exact h
  | step _ ih => unfold slotsUp; rw [ih]
theorem slotsUp_next {n seq : Int} {f : Nat → List Int} {k : Nat} {l : List (Int × List Int)} {x : Int × List Int} (h : slotsUp n f seq k = some l) (hx : slotIn n f seq k = some x) : slotsUp n f seq (k + 1) = some (l ++ [x]) := by unfold slotsUp; rw [h, hx]
theorem slotsUp_stop {n seq : Int} {f : Nat → List Int} {k : Nat} (hx : slotIn n f seq k = none) : slotsUp n f seq (k + 1) = none := by unfold slotsUp; rw [hx]; split <;> simp_all

section
variable {w : World} {G : Nat → Prop} {x : Addr} {S : DS}

theorem RefAt.sizeCell (h : RefAt w G x S) : ∃ gl, w.cell? x = some (.slice (some ⟨gl, 0, none⟩) S.n S.n) ∧ ∃ gx, x = ⟨gx, 0, none⟩ ∧ G gx := by
  obtain ⟨gx, gl, rfl, h0, _, _⟩ := h
  obtain ⟨h1, h2, h3, h4, rest⟩ := h0
  exact ⟨gl, h4.cell (i := 0) (by decide), gx, rfl, h2⟩

set_option maxHeartbeats 8000000 in
theorem refSlots_any (h : RefAt w G x S) (hok : S.Ok) (hd : S.down = false) (count : Nat) (seq : Int) (hc : count ≤ 4294967296) :
    Calls Tryd.prog 43 #[.pointer (some x), .int .i64 (count : Int), .int .i64 seq] w fun e w' => Below w.heap.size w w' ∧
      ((slotsOf S.n S.last count seq = none ∧ e = .returned (.tuple #[.slice none 0 0, .slice none 0 0, .bool false])) ∨
       ∃ l A n c A' n' c', slotsOf S.n S.last count seq = some l ∧ e = .returned (.tuple #[.slice A n c, .slice A' n' c', .bool true]) ∧ TwoRows w' G w.heap.size (.slice A n c) (.slice A' n' c') l) := by
  have hsz := hok.size
  obtain ⟨gl, c0, gx, rfl, hGx⟩ := h.sizeCell
  have hpb := pagesOf_bounds (S.n : Int)
  have hpn := (pagesOf_nn (S.n : Int)).2.1 (by omega)
  have HP := Lib.hid (fun w => refPages_any (S.n : Int) w (by omega))
  have hlt := h.lt
  have HH := Lib.hid h
  clear h
  go_enter Tryd.func43, Tryd.ntmps43
  go_wp2_with fail
  refine (HP.out _).mono ?_
  rintro e w1 ⟨rfl, rfl⟩
  by_cases hcp : pagesOf (S.n : Int) < (count : Int)
  · have k1 : decide (pagesOf (S.n : Int) < (count : Int)) = true := by simpa using hcp
    have HN := Lib.hid (show slotsOf S.n S.last count seq = none by unfold slotsOf; rw [if_pos hcp])
    clear hcp
    go_wp2
    exact bodyPost_ret (v := .tuple #[.slice none 0 0, .slice none 0 0, .bool false]) (by simp [results, Tryd.results43, go_sem]) rfl ⟨Below.refl _ _, .inl ⟨HN.out, rfl⟩⟩
  · have k1 : decide (pagesOf (S.n : Int) < (count : Int)) = false := by simpa using hcp
    have hcp' : (count : Int) ≤ pagesOf (S.n : Int) := by omega
    have HSO := Lib.hid (show ∀ r, slotsUp S.n S.last seq count = r → slotsOf S.n S.last count seq = r from fun r hr => by unfold slotsOf; rw [if_neg (by omega), Int.toNat_natCast]; exact hr)
    go_wp2
    go_loopw [10, 11, 12] (fun ov pv i wr => ∃ (k : Nat) (l : List (Int × List Int)) (A : Option Addr) (n c : Nat) (A' : Option Addr) (n' c' : Nat), k ≤ count ∧ i = .int .i64 k ∧ ov = .slice A n c ∧ pv = .slice A' n' c' ∧ Hid (slotsUp S.n S.last seq k = some l ∧ TwoRows wr G w.heap.size (.slice A n c) (.slice A' n' c') l ∧ Below w.heap.size w wr)) (fun _ _ i _ => count - (intOf i).toNat)
    case atStart => exact ⟨0, [], none, 0, 0, none, 0, 0, Nat.zero_le _, rfl, rfl, rfl, Lib.hid ⟨rfl, TwoRows.start _ _ _, Below.refl _ _⟩⟩
    case round =>
      obtain ⟨k, l, A, n, c, A', n', c', hk, rfl, rfl, rfl, hM⟩ := hrel
      by_cases hlt2 : k < count
      · obtain ⟨hup, hrows, hb⟩ := hM.out
        have hlt' : (k : Int) < (count : Int) := by omega
        have hsl : slotOf (S.n : Int) (k : Int) = ((k : Int) + 1, true) := by unfold slotOf; rw [if_neg (by omega)]
        have HSL := Lib.hid hsl
        have hRr := HH.out.keep (w' := wr) (fun j hj => hb.block j (hlt j hj))
        have hq : k + 1 < S.n := by omega
        have hbytes := hok.lastBytes (k + 1)
        go_wp2_with fail
        refine (refSlot_any (S.n : Int) (k : Int) _ (by omega)).mono ?_
        rw [HSL.out]
        rintro e w1 ⟨rfl, rfl⟩
        go_wp2_with fail
        refine (refRead_at hRr hq hd).mono ?_
        rintro e w2 ⟨g, rfl, hg, hr2, hb2⟩
        go_wp2_with fail
        refine (refUnpack_any _ 256 256 _ _ _ hr2 (Nat.le_refl _) (Nat.le_refl _) (by decide)).mono ?_
        rintro e w3 ⟨A3, n3, c3, rfl, _, _, hb3⟩
        have hb23 := hb2.trans (hb3.mono hb2.size)
        have hr3 := hr2.there (w' := w3) (by decide) (hb3.block g (by obtain ⟨bb, _, e, hbb, _⟩ := hr2.at_ (by decide); cases e; exact hbb)) hb3.size
        have hb03 := hb.trans (hb23.mono hb.size)
        have hrows3 := hrows.below hb23
        have HSI := Lib.hid (show slotIn S.n S.last seq k = if (unpackR (S.last (k + 1))).2.2.2 = 0 ∧ (unpackR (S.last (k + 1))).2.1 = seq ∧ (unpackR (S.last (k + 1))).1 < pagesOf S.n then some ((unpackR (S.last (k + 1))).1, S.last (k + 1)) else none from rfl)
        have hws := hb.size
        have hgl : g < w3.heap.size := by obtain ⟨bb, _, e, hbb, _⟩ := hr3.at_ (by decide); cases e; exact hbb
        have hno1 : (Value.slice A n c).ownBlock ≠ some g := fun e => by
          obtain ⟨vs, hv, _⟩ := hrows.out
          have := (own_at hv g e).2
          omega
        have hno2 : (Value.slice A' n' c').ownBlock ≠ some g := fun e => by
          have := (own_at hrows.pages g e).2
          omega
        clear hbytes hr2 hb2 hb3 hb23 hRr hrows
        generalize hpg : (unpackR (S.last (k + 1))).1 = pg at HSI ⊢
        generalize hse : (unpackR (S.last (k + 1))).2.1 = se at HSI ⊢
        generalize her : (unpackR (S.last (k + 1))).2.2.2 = er at HSI ⊢
        clear hpg hse her
        by_cases h1 : er = 0
        · subst h1
          by_cases h2 : se = seq
          · subst h2
            have k3 : (se != se) = false := by simp
            by_cases h3 : pg < pagesOf (S.n : Int)
            · have k4 : decide (pagesOf (S.n : Int) ≤ pg) = false := by simpa using h3
              have HSI2 := Lib.hid (HSI.out.trans (if_pos ⟨rfl, rfl, h3⟩))
              obtain ⟨vs, hvs, hvl⟩ := hrows3.out
              have hln : l.length = n := by
                have := hvs.2
                rcases hvs.2 with ⟨e1, e2⟩ | ⟨_, _, _, e1, _⟩
                · injection e1 with _ e3; rw [e2, e3]
                · injection e1 with _ e3; exact e3.symm
              have hln' : l.length = n' := by
                rcases hrows3.pages.2 with ⟨e1, e2⟩ | ⟨_, _, _, e1, _⟩
                · injection e1 with _ e3; rw [e2, e3]
                · injection e1 with _ e3; exact e3.symm
              have hlk := (slotsUp_mem k hup).1
              have hap : Apart w3 G (.slice A n c) (.slice A' n' c') (.slice (some ⟨g, 0, none⟩) 256 256) (S.last (k + 1)) := ⟨g, 256, rfl, Nat.le_refl _, fun hf => by have := hlt g hf; omega, hno1, hno2, hgl, hr3⟩
              subst hln
              subst hln'
              have hs3 : w.heap.size ≤ w3.heap.size := hb03.size
              have hvsX : (w3.alloc (.cells #[.slice (some ⟨g, 0, none⟩) 256 256] 69)).ownsRow w.heap.size 69 1 (.slice A l.length c) l.length vs := own_stays hvs (fun r hr => heap_alloc_old w3 _ (own_at hvs r hr).2)
              have hbX1 : (w3.alloc (.cells #[.slice (some ⟨g, 0, none⟩) 256 256] 69)).heap[w3.heap.size]? = some (.cells #[.slice (some ⟨g, 0, none⟩) 256 256] 69) := heap_alloc_new _ _
              have HPG := Lib.hid (fun w4 (h4 : (w3.alloc (.cells #[.slice (some ⟨g, 0, none⟩) 256 256] 69)).grownBy w4 (Value.slice A l.length c).ownBlock) => hrows3.pages1 hvs h4)
              have HEND := Lib.hid (fun A4 c4 w4 A5 c5 w5 h1 h2 h3 h4 h5 h6 => hrows3.push (w1 := w4) (w2 := w5) (ov' := .slice A4 (l.length + 1) c4) (pv' := .slice A5 (l.length + 1) c5) (p := pg) (T := 69) (T' := 3) (fun k hk => by have := hlt k hk; omega) hap hvs hvl h1 h2 h3 h4 h5 h6)
              have hlk2 : l.length ≤ 65536 := by omega
              have HUP := Lib.hid (slotsUp_next hup HSI2.out)
              have HB03 := Lib.hid hb03
              have HOV := Lib.hid (fun r hr => (own_at hvs r hr).1)
              have HPV := Lib.hid (fun r hr => (own_at hrows3.pages r hr).1)
              clear hrows3 hvs hvl hap hup hb03 h3 hlk hsl hno1 hno2 hr3
              go_wp2_with (first
                | (go_at_call 72; refine (HP.out _).mono ?_; rintro e w9 ⟨rfl, rfl⟩)
                | (at_builtin; refine wpList_append_slice1 rfl _ _ rfl w.heap.size (.slice A l.length c) l.length vs rfl w3.heap.size (some ⟨g, 0, none⟩) 256 256 _ rfl hvsX hbX1 (by omega) (by simp; omega) ?_; intro A4 c4 w4 hown4 hg4 hl4; have hs4 : w3.heap.size + 1 ≤ w4.heap.size := (by have := hg4.size; simpa using this); have hpX : (w4.alloc (.cells #[.int .i64 pg] 3)).ownsRow w.heap.size 3 1 (.slice A' l.length c') l.length ((l.map (·.1)).map (Value.int .i64)) := own_stays (HPG.out w4 hg4) (fun r hr => heap_alloc_old w4 _ (own_at (HPG.out w4 hg4) r hr).2); have hbX2 : (w4.alloc (.cells #[.int .i64 pg] 3)).heap[w4.heap.size]? = some (.cells #[.int .i64 pg] 3) := heap_alloc_new _ _; have HO4 := Lib.hid (And.intro hown4 (And.intro hg4 hl4)); clear hown4 hg4 hl4)
                | (at_builtin; refine wpList_append_int1 rfl _ _ rfl w.heap.size (.slice A' l.length c') l.length _ rfl w4.heap.size pg _ rfl hpX hbX2 (by omega) (by simp; omega) ?_; intro A5 c5 w5 hown5 hg5 hl5; have HO5 := Lib.hid (And.intro hown5 (And.intro hg5 hl5)); clear hown5 hg5 hl5))
              obtain ⟨hp1, hp2, hp3⟩ := HEND.out A4 c4 w4 A5 c5 w5 HO4.out.1 HO4.out.2.1 (by have := HO4.out.2.2; simpa using this) (by have := HO5.out.1; simpa using this) HO5.out.2.1 (by have := HO5.out.2.2; simpa using this)
              have hb4 : Below w.heap.size w w4 := (HB03.out.alloc hs3 _).grown HO4.out.2.1 (by simp; omega) HOV.out
              have hb5 : Below w.heap.size w w5 := (hb4.alloc hb4.size _).grown HO5.out.2.1 (by have := hb4.size; simp; omega) HPV.out
              have HRE := Lib.hid (And.intro hp1 hb5)
              clear hp1 hp2 hp3 hb4 hb5
              go_roundw
              case rel => exact ⟨k + 1, l ++ [(pg, S.last (k + 1))], A4, l.length + 1, c4, A5, l.length + 1, c5, by omega, by go_num, rfl, rfl, Lib.hid ⟨HUP.out, HRE.out.1, HRE.out.2⟩⟩
              case measure => simp [intOf]; omega
            · have k4 : decide (pagesOf (S.n : Int) ≤ pg) = true := by simpa using h3
              have HN := Lib.hid (HSO.out none (slotsUp_none (slotsUp_stop (HSI.out.trans (if_neg (fun h => h3 h.2.2)))) (by omega)))
              clear h3 hrows3 hup
              go_wp2_with (go_at_call 72; refine (HP.out _).mono ?_; rintro e w4 ⟨rfl, rfl⟩)
              exact bodyPost_ret (v := .tuple #[.slice none 0 0, .slice none 0 0, .bool false]) (by simp [results, Tryd.results43, go_sem]) rfl ⟨hb03, .inl ⟨HN.out, rfl⟩⟩
          · have k3 : (se != seq) = true := by simpa using h2
            have HN := Lib.hid (HSO.out none (slotsUp_none (slotsUp_stop (HSI.out.trans (if_neg (fun h => h2 h.2.1)))) (by omega)))
            clear h2 hrows3 hup
            go_wp2
            exact bodyPost_ret (v := .tuple #[.slice none 0 0, .slice none 0 0, .bool false]) (by simp [results, Tryd.results43, go_sem]) rfl ⟨hb03, .inl ⟨HN.out, rfl⟩⟩
        · have k2 : (er != 0) = true := by simpa using h1
          have HN := Lib.hid (HSO.out none (slotsUp_none (slotsUp_stop (HSI.out.trans (if_neg (fun h => h1 h.1)))) (by omega)))
          clear h1 hrows3 hup
          go_wp2
          exact bodyPost_ret (v := .tuple #[.slice none 0 0, .slice none 0 0, .bool false]) (by simp [results, Tryd.results43, go_sem]) rfl ⟨hb03, .inl ⟨HN.out, rfl⟩⟩
      · obtain rfl : k = count := by omega
        obtain ⟨hup, hrows, hb⟩ := hM.out
        have HSO2 := Lib.hid (HSO.out _ hup)
        have HM2 := Lib.hid (And.intro hrows hb)
        clear hup hrows hb
        go_wp2
        exact bodyPost_ret (v := .tuple #[.slice A n c, .slice A' n' c', .bool true]) (by simp [results, Tryd.results43, go_sem]) rfl ⟨HM2.out.2, .inr ⟨l, A, n, c, A', n', c', HSO2.out, rfl, HM2.out.1⟩⟩
end

end Go.Proofs.YtkpmfobmlaldfaaDoor

/-
  Contracts of the plain log's homes, over the plain disk. Conditions: pages that the disk has; fewer than 2^63 - 1 writes.
-/
namespace Go.Proofs.YtkpmfobmlaldfaaDoor
open Go.RowKit
set_option maxRecDepth 100000
set_option linter.unusedVariables false

section
variable {w : World} {G : Nat → Prop} {x : Addr} {S : DS}

theorem homesS_cons (S : DS) (y : Int × List Int) (r : List (Int × List Int)) : homesS S (y :: r) = thenS (S.wr (y.1 + 1 + S.P) y.2) (fun S' => homesS S' r) := by
  obtain ⟨p, b⟩ := y
  rfl
theorem write_more (S : DS) (i : Int) (l : List Int) : (S.write i l).writes ≤ S.writes + 1 ∧ (S.write i l).n = S.n := by
  unfold DS.write
  split
  · exact ⟨Nat.le_succ _, rfl⟩
  split
  · exact ⟨Nat.le_succ _, rfl⟩
  split
  · exact ⟨Nat.le_succ _, rfl⟩
  · exact ⟨Nat.le_refl _, rfl⟩
theorem RefAt.okay' (h : RefAt w G x S) : S.Ok := by
  obtain ⟨gx, gl, _, _, hok, _⟩ := h
  exact hok

/-- Between two rounds of homes. -/
def HomeMid (w : World) (G : Nat → Prop) (base : Nat) (x : Addr) (S : DS) (ov pv : Value) (l : List (Int × List Int)) (k : Nat) (wr : World) : Prop :=
  ∃ G' S', RefAt wr G' x S' ∧ Touch G w wr ∧ (∀ j, G' j → G j ∨ w.heap.size ≤ j) ∧ homesS S l = homesS S' (l.drop k) ∧ TwoRows wr G' base ov pv l ∧ S'.n = S.n ∧ S'.writes ≤ S.writes + k

theorem HomeMid.next {wq w' : World} {G1 : Nat → Prop} {S2 : DS} {base : Nat} {ov pv : Value} {l : List (Int × List Int)} {k : Nat} (hT : Touch G w wq) (hG1 : ∀ j, G1 j → G j ∨ w.heap.size ≤ j) (hrows : TwoRows wq G1 base ov pv l) (hW : Wrote wq G1 x S2 w') (he : homesS S l = homesS S2 (l.drop (k + 1))) (hn : S2.n = S.n) (hw : S2.writes ≤ S.writes + k + 1) : HomeMid w G base x S ov pv l (k + 1) w' := by
  obtain ⟨G2, h1, h2, h3⟩ := hW
  obtain ⟨G3, h4, h5, h6⟩ := Wrote.join hT hG1 ⟨G2, h1, h2, h3⟩
  refine ⟨G2, S2, h1, ?_, fun j hj => ?_, he, hrows.touch h2 h3, hn, by omega⟩
  · exact ⟨h2.os.trans hT.os, h2.tape.trans hT.tape, h2.output.trans hT.output, Nat.le_trans hT.size h2.size, fun j hj hF => (h2.block j (Nat.lt_of_lt_of_le hj hT.size) (fun hf => by
      rcases hG1 j hf with a | a
      · exact hF a
      · omega)).trans (hT.block j hj hF)⟩
  · rcases h3 j hj with a | a
    · exact hG1 j a
    · exact .inr (Nat.le_trans hT.size a)

theorem drop_at {α : Type} {l : List α} {k : Nat} {y : α} (h : l[k]? = some y) : l.drop k = y :: l.drop (k + 1) := by
  obtain ⟨hk, e⟩ := List.getElem?_eq_some_iff.1 h
  rw [List.drop_eq_getElem_cons hk, e]

set_option maxHeartbeats 1600000 in
theorem refHomes_any {base : Nat} {A A' : Option Addr} {n c n' c' : Nat} {l : List (Int × List Int)} (h : RefAt w G x S) (hrows : TwoRows w G base (.slice A n c) (.slice A' n' c') l) (hp : ∀ y ∈ l, 0 ≤ y.1 ∧ y.1 < pagesOf S.n) (hl : l.length ≤ 65536) (hw : S.writes + l.length ≤ 9223372036854775806) :
    Calls Tryd.prog 44 #[.pointer (some x), .slice A n c, .slice A' n' c'] w fun e w' => e = .returned (.int .i64 (homesS S l).1) ∧ Wrote w G x (homesS S l).2 w' := by
  have hn : n = l.length := by
    obtain ⟨vs, hv, _⟩ := hrows.out
    rcases hv.2 with ⟨e1, e2⟩ | ⟨_, _, _, e1, _⟩
    · injection e1 with _ e3; rw [e2, e3]
    · injection e1 with _ e3
  subst hn
  have hsz := h.okay'.size
  have HM0 := Lib.hid (show HomeMid w G base x S (.slice A l.length c) (.slice A' n' c') l 0 w from ⟨G, S, h, Touch.refl _ _, fun j hj => .inl hj, rfl, hrows, rfl, Nat.le_refl _⟩)
  have HP := Lib.hid hp
  clear h hrows hp
  go_enter Tryd.func44, Tryd.ntmps44
  go_wp2
  go_loopw [7] (fun i wr => ∃ k : Nat, k ≤ l.length ∧ i = .int .i64 k ∧ Hid (HomeMid w G base x S (.slice A l.length c) (.slice A' n' c') l k wr)) (fun i _ => l.length - (intOf i).toNat)
  case atStart => exact ⟨0, Nat.zero_le _, rfl, HM0⟩
  case round =>
    obtain ⟨k, hk, rfl, hM⟩ := hrel
    obtain ⟨G1, S1, hR1, hT1, hG1, he1, hrows1, hn1, hw1⟩ := hM.out
    by_cases hlt : k < l.length
    · have hlt' : (k : Int) < (l.length : Int) := by omega
      obtain ⟨y, hy⟩ : ∃ y, l[k]? = some y := ⟨_, List.getElem?_eq_getElem hlt⟩
      obtain ⟨r, cr, r', cr', g, cg, e1, e2, d1, d2, h256, hGg, hgl, hrb⟩ := hrows1.at_ hy
      cases e1
      cases e2
      obtain ⟨gl, c0, gx, rfl, hGx⟩ := hR1.sizeCell
      have hyp := HP.out y (List.mem_of_getElem? hy)
      have hho : homeOf (S.n : Int) y.1 = (y.1 + 1 + pagesOf S.n, true) := by unfold homeOf; rw [if_neg (by omega)]
      have HH := Lib.hid (show ∀ w, Calls Tryd.prog 74 #[.int .i64 (S.n : Int), .int .i64 y.1] w fun e w' => e = .returned (.tuple #[.int .i64 (y.1 + 1 + pagesOf S.n), .bool true]) ∧ w' = w from fun w => by
        have hh := refHome_any (S.n : Int) y.1 w (by omega)
        rw [hho] at hh
        exact hh.mono fun e w' h' => ⟨h'.1, h'.2.symm⟩)
      rw [drop_at hy, homesS_cons] at he1
      have HE := Lib.hid he1
      have HR := Lib.hid (And.intro hR1 (And.intro hT1 (And.intro hG1 hrows1)))
      have hlk : l.length ≤ 9223372036854775807 := by omega
      have HN1 := Lib.hid hn1
      rw [hn1] at c0
      clear he1 hho hR1 hT1 hG1 hrows1 hM HM0 hn1
      go_wp2_with fail
      go_quiet ((go_at_call 74; exact Calls.quiet_of_same (HH.out _)))
      obtain ⟨hR1, hT1, hG1, hrows1⟩ := HR.out
      have hRq : RefAt (wr.drewN nq) G1 ⟨gx, 0, none⟩ S1 := hR1.keep (fun _ _ => rfl)
      have hTq : Touch G w (wr.drewN nq) := ⟨hT1.os, hT1.tape, hT1.output, hT1.size, hT1.block⟩
      have hrowsq : TwoRows (wr.drewN nq) G1 base (.slice (some ⟨r, 0, none⟩) l.length c) (.slice (some ⟨r', 0, none⟩) l.length c') l := hrows1.keep (Nat.le_refl _) (fun _ _ h => h) (fun _ _ _ => rfl)
      have d1q : (wr.drewN nq).cell? ⟨r, k, none⟩ = some (.slice (some ⟨g, 0, none⟩) 256 cg) := d1
      have hrq : RB (wr.drewN nq) (wr.drewN nq).heap.size (some ⟨g, 0, none⟩) 256 y.2 := hrb.keep (fun _ _ _ => rfl)
      have hP1 : S1.P = pagesOf S.n := by unfold DS.P; rw [HN1.out]
      have HW := Lib.hid (refWrite_any hRq (y.1 + 1 + pagesOf S.n) g 0 256 cg _ y.2 hrq (Nat.le_refl _) hGg (by decide) (by omega))
      have HE2 := Lib.hid (show homesS S l = thenS (S1.wr (y.1 + 1 + pagesOf S.n) y.2) (fun S' => homesS S' (l.drop (k + 1))) by rw [← hP1]; exact HE.out)
      obtain ⟨hmw, hmn⟩ := write_more S1 (y.1 + 1 + pagesOf S.n) y.2
      have HPK := Lib.hid (And.intro hTq (And.intro hG1 hrowsq))
      clear hR1 hT1 hG1 hrows1 HR hRq hTq hrowsq hrq hrb d1 d2 c0 HE hP1 HH
      by_cases h0 : S1.writeE (y.1 + 1 + pagesOf S.n) y.2 = 0
      · have H0 := Lib.hid h0
        have HE3 := Lib.hid (HE2.out.trans (thenS_ok (r := S1.wr (y.1 + 1 + pagesOf S.n) y.2) h0))
        clear h0
        go_wp2_with fail
        refine HW.out.mono ?_
        rw [H0.out]
        rintro e w2 ⟨rfl, hW2⟩
        have hM2 := Lib.hid (HomeMid.next HPK.out.1 HPK.out.2.1 HPK.out.2.2 hW2 HE3.out (hmn.trans HN1.out) (by omega))
        clear hW2
        go_wp2
        go_roundw
        case rel => exact ⟨k + 1, by omega, by go_num, hM2⟩
        case measure => simp [intOf]; omega
      · have kne : (S1.writeE (y.1 + 1 + pagesOf S.n) y.2 != 0) = true := by simpa using h0
        have KN := Lib.hid kne
        have HE3 := Lib.hid (HE2.out.trans (thenS_no (r := S1.wr (y.1 + 1 + pagesOf S.n) y.2) h0))
        clear h0 kne
        go_wp2_with fail
        refine HW.out.mono ?_
        rintro e w2 ⟨rfl, hW2⟩
        have hF := Lib.hid (Wrote.join HPK.out.1 HPK.out.2.1 hW2)
        have kne := KN.out
        clear hW2
        go_wp2
        go_ret
        rw [HE3.out]
        exact ⟨rfl, hF.out⟩
    · obtain rfl : k = l.length := by omega
      rw [List.drop_length] at he1
      have HE := Lib.hid he1
      have HF := Lib.hid (refFlush_any hR1)
      have HT := Lib.hid (And.intro hT1 hG1)
      clear he1 hR1 hT1 hG1 hrows1 hM HM0 hn1
      go_wp2_with fail
      refine HF.out.mono ?_
      rintro e w2 ⟨rfl, hW2⟩
      have hF := Lib.hid (Wrote.join HT.out.1 HT.out.2 hW2)
      clear hW2
      go_wp2
      go_ret
      rw [HE.out]
      exact ⟨rfl, hF.out⟩
end

end Go.Proofs.YtkpmfobmlaldfaaDoor
