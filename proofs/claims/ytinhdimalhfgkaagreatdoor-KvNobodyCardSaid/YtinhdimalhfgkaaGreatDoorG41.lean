/-
  The texts RedoWP, RedoAt, PgD, StepApp, RedoRG joined. Conditions: those that each part says at its head.
-/
import Derived.Test.YtinhdimalhfgkaaGreatDoorG14
import Derived.Test.YtinhdimalhfgkaaGreatDoorG18
import Derived.Test.YtinhdimalhfgkaaGreatDoorG7
import Derived.Test.YtinhdimalhfgkaaGreatDoorG11
import Derived.StillTailTactics
import Derived.Deep.AppendLies
import Derived.Deep.RegionLaw
import Derived.Deep.RegionHeld3
import Derived.BigRegion

/-
  Plain: a commit of no image, and how many sectors a commit writes. No program.
-/
namespace Go.Proofs.YtinhdimalhfgkaaGreatDoor
open Go.RowKit
set_option maxRecDepth 100000
set_option linter.unusedVariables false

theorem ints_few {N : Nat} {l : List Int} (hn : l.Nodup) (h : ∀ x ∈ l, 0 ≤ x ∧ x < N) : l.length ≤ N := by
  have h1 : (l.map Int.toNat).Nodup := by
    rw [List.nodup_iff_pairwise_ne, List.pairwise_map]
    refine (List.pairwise_iff_getElem.2 fun i j hi hj hij => ?_)
    have h2 := h _ (List.getElem_mem hi)
    have h3 := h _ (List.getElem_mem hj)
    have h4 := (List.pairwise_iff_getElem.1 (List.nodup_iff_pairwise_ne.1 hn)) i j hi hj hij
    omega
  have := nodup_lt N _ h1 (fun x hx => by
    obtain ⟨y, hy, rfl⟩ := List.mem_map.1 hx
    have := h y hy
    omega)
  simpa using this
theorem commit_nil {S : DS} {seq : Int} : commitS S seq [] = (0, seq, S) := by
  have hb := pagesOf_bounds (S.n : Int)
  rw [commitS_not (.inr rfl)]
  have : rightE S [] = 0 := by
    unfold rightE
    rw [if_neg (by show ¬ ((0 : Nat) : Int) > pagesOf _; omega), if_pos ⟨(fun x hx => by cases hx), List.nodup_nil⟩]
  rw [this]
/-- How many sectors a commit of so many images writes. -/
def wantW (n : Nat) : Nat := if n = 0 then 0 else 2 * n + 1
/-- A commit, of no image too. -/
theorem free_commit_all {S : DS} {f : Nat → List Int} {n seq : Int} {l : List (Int × List Int)} (hn : n = S.n) (hn3 : 3 ≤ n) (hI : Imgs n seq l) (h : Free S) (hR : Rests S f) :
    (commitS S seq l).1 = 0 ∧ (commitS S seq l).2.2.n = S.n ∧ Free (commitS S seq l).2.2 ∧ (commitS S seq l).2.2.writes = S.writes + wantW l.length := by
  by_cases hne : l = []
  · subst hne
    rw [commit_nil]
    exact ⟨rfl, rfl, h, rfl⟩
  · obtain ⟨h1, h2, h3, h4, h5, h6⟩ := free_commit hn hn3 hI hne h hR
    refine ⟨h1, h4, h3, ?_⟩
    rw [h5]
    unfold wantW
    rw [if_neg (fun e => hne (List.eq_nil_of_length_eq_zero e))]

end Go.Proofs.YtinhdimalhfgkaaGreatDoor

/-
  Plain: a crash in the middle of a commit leaves all its pages or none. No program.
-/
namespace Go.Proofs.YtinhdimalhfgkaaGreatDoor
open Go.RowKit
set_option maxRecDepth 100000
set_option linter.unusedVariables false

section
variable {S : DS} {f g : Nat → List Int} {n seq : Int}

/-- A disk that rests on an image which reads as it does when it is opened. -/
structure Set_ (S : DS) (f : Nat → List Int) (seq : Int) : Prop where
  rests : Rests S f
  opn : opened S.n f = f
  err : (unpackR (f 0)).2.2.2 = 0
  num : (unpackR (f 0)).2.1 = seq

theorem opened_zero (hn : 0 ≤ pagesOf n) (f : Nat → List Int) : opened n f 0 = f 0 := by
  rcases h : listed n f with _ | l
  · rw [opened_none h]
  · rw [opened_some h, putH_far _ _ (fun x hx e => by have := (listed_mem h x hx).1.1; omega)]
theorem Free.fuse_crash (S : DS) (k : List Int) : Free (S.crash k) := ⟨rfl, rfl⟩
theorem Rests.fuse (h : Rests S f) (k : Int) : Rests (S.fuse k) f := ⟨h.safe, h.last, h.up⟩
theorem Set_.fuse (h : Set_ S f seq) (k : Int) : Set_ (S.fuse k) f seq := ⟨h.rests.fuse k, h.opn, h.err, h.num⟩

/-- From a crash on: Open (wherever the disk goes down), a crash, Open. -/
theorem atomic_tail (hn : n = S.n) (hn3 : 3 ≤ n) (hR : Rests S g) (hm : (unpackR (g 0)).2.2.2 = 0) (k : Int) (kept : List Int) :
    (openS ((openS (S.fuse k)).2.2.crash kept)).1 = 0 ∧ (openS ((openS (S.fuse k)).2.2.crash kept)).2.2.n = S.n ∧ Free (openS ((openS (S.fuse k)).2.2.crash kept)).2.2 ∧ Set_ (openS ((openS (S.fuse k)).2.2.crash kept)).2.2 (opened n g) (unpackR (g 0)).2.1 := by
  have hnn := (pagesOf_nn n).1
  obtain ⟨g', h1, h2, h3, h4⟩ := open_leaves (n := n) (S := S.fuse k) hn (hR.fuse k) hm kept
  obtain ⟨o1, o2, o3, o4, o5⟩ := open_free (n := n) (S := (openS (S.fuse k)).2.2.crash kept) (by rw [h4]; exact hn) hn3 (Free.fuse_crash _ _) h1 (by rw [h2]; exact hm)
  refine ⟨o1, o5.trans h4, o4, ?_⟩
  have hz := opened_zero hnn g
  rw [h3] at o3
  refine ⟨o3, ?_, by rw [hz]; exact hm, by rw [hz]⟩
  rw [o5.trans h4, show ((S.fuse k).n : Int) = n from hn.symm]
  exact opened_twice hnn g

/-- All pages of a commit are there, or none. -/
theorem atomic_plain {l : List (Int × List Int)} (hn : n = S.n) (hn3 : 3 ≤ n) (hI : Imgs n seq l) (hS : Set_ S f seq) (keep : List Int) (k : Int) (kept : List Int) :
    ∃ g, (openS ((openS ((((commitS S seq l).2.2).crash keep).fuse k)).2.2.crash kept)).1 = 0 ∧ (openS ((openS ((((commitS S seq l).2.2).crash keep).fuse k)).2.2.crash kept)).2.2.n = S.n ∧ Free (openS ((openS ((((commitS S seq l).2.2).crash keep).fuse k)).2.2.crash kept)).2.2 ∧
      (∃ s, Set_ (openS ((openS ((((commitS S seq l).2.2).crash keep).fuse k)).2.2.crash kept)).2.2 g s) ∧
      (((∀ x ∈ l, pageIn n g x.1 = x.2) ∧ ∀ p, 0 ≤ p → p < pagesOf n → (∀ x ∈ l, x.1 ≠ p) → pageIn n g p = pageIn n f p) ∨ ((commitS S seq l).1 ≠ 0 ∧ ∀ p, 0 ≤ p → p < pagesOf n → pageIn n g p = pageIn n f p)) := by
  have hnn := (pagesOf_nn n).1
  have hop : opened n f = f := by have := hS.opn; rw [← hn] at this; exact this
  by_cases hne : l = []
  · subst hne
    rw [commit_nil]
    obtain ⟨h1, h2⟩ := (hS.rests.both (fun _ _ => False)).crash keep
    have e : (S.crash keep).last = f := by
      funext i
      rcases h1 i with e | e
      · exact e
      · exact e.elim
    rw [e] at h2
    obtain ⟨t1, t2, t3, t4⟩ := atomic_tail (S := S.crash keep) (n := n) hn hn3 h2 hS.err k kept
    rw [hop] at t4
    exact ⟨f, t1, t2, t3, ⟨_, t4⟩, .inl ⟨(fun x hx => by cases hx), fun p _ _ _ => rfl⟩⟩
  · obtain ⟨g1, g2⟩ := commit_leaves hn hI hne hS.rests
    have hn' : n = ((commitS S seq l).2.2.crash keep).n := by show n = ((commitS S seq l).2.2.n : Int); rw [g1]; exact hn
    have hpage : ∀ a b : Nat → List Int, (∀ j : Nat, pagesOf n < j → a j = b j) → ∀ p, 0 ≤ p → p < pagesOf n → pageIn n a p = pageIn n b p := fun a b h p hp _ => by
      unfold pageIn
      rw [h _ (by omega)]
    rcases g2 with ⟨he, hB⟩ | ⟨hB, _⟩
    · obtain ⟨h1, h2⟩ := hB.crash keep
      obtain ⟨v1, v2⟩ := view_slots hI hS.num hop h1
      obtain ⟨t1, t2, t3, t4⟩ := atomic_tail (n := n) hn' hn3 h2 (by rw [v1]; exact hS.err) k kept
      exact ⟨_, t1, t2.trans g1, t3, ⟨_, t4⟩, .inr ⟨he, hpage _ _ v2⟩⟩
    · obtain ⟨h1, h2⟩ := hB.crash keep
      obtain ⟨m1, m2, m3⟩ := view_marked (f := f) hI
      obtain ⟨p1, p2⟩ := opened_part hnn m2 h1
      have hz := homeW_far (fun x hx => (listed_mem m2 x hx).1.1) h1 hnn (j := 0) (by omega)
      obtain ⟨t1, t2, t3, t4⟩ := atomic_tail (n := n) hn' hn3 h2 (by rw [hz, m1]) k kept
      rw [p2, opened_some m2] at t4
      exact ⟨_, t1, t2.trans g1, t3, ⟨_, t4⟩, .inl (pages_marked hI)⟩

/-- The log behind the first commit. -/
theorem first_set {m : Nat} {l : List (Int × List Int)} (hn : (m : Int) = S.n) (hn3 : 3 ≤ (m : Int)) (hI : Imgs m 1 l) (hF : Free S) (hR : Rests S fresh1) :
    (commitS S 1 l).1 = 0 ∧ (commitS S 1 l).2.2.n = S.n ∧ Free (commitS S 1 l).2.2 ∧ (commitS S 1 l).2.2.writes = S.writes + wantW l.length ∧ (1 ≤ (commitS S 1 l).2.1 ∧ (commitS S 1 l).2.1 ≤ 2) ∧ ∃ f, Set_ (commitS S 1 l).2.2 f (commitS S 1 l).2.1 := by
  obtain ⟨a1, a2, a3, a4⟩ := free_commit_all hn hn3 hI hF hR
  have hnn := (pagesOf_nn (m : Int)).1
  refine ⟨a1, a2, a3, a4, ?_⟩
  by_cases hne : l = []
  · subst hne
    rw [commit_nil]
    exact ⟨⟨by show (1 : Int) ≤ 1; omega, by show (1 : Int) ≤ 2; omega⟩, fresh1, hR, by rw [← hn]; exact (fresh1_opened _).2, by rw [fresh1_mark], by rw [fresh1_mark]⟩
  · obtain ⟨h1, h2, h3, h4, h5, h6⟩ := free_commit hn hn3 hI hne hF hR
    refine ⟨by rw [h2]; omega, _, h6, ?_, ?_, ?_⟩
    · rw [h4, ← hn]
      obtain ⟨m1, m2, m3⟩ := view_marked (f := fresh1) hI
      rw [← opened_some m2]
      exact opened_twice hnn _
    · obtain ⟨m1, m2, m3⟩ := view_marked (f := fresh1) hI
      rw [putH_far _ _ (fun x hx e => by have := (hI.mem hx).1.1; omega), m1]
    · obtain ⟨m1, m2, m3⟩ := view_marked (f := fresh1) hI
      rw [putH_far _ _ (fun x hx e => by have := (hI.mem hx).1.1; omega), m1, h2]

theorem homes_more (S : DS) (l : List (Int × List Int)) : (homesS S l).2.writes ≤ S.writes + l.length := by
  rw [← putS_homes]
  have := (putS_more (atHomes S.P l) S).1
  simpa [atHomes] using this
theorem open_more (S : DS) : (openS S).2.2.writes ≤ S.writes + 32767 ∧ (openS S).2.2.n = S.n := by
  unfold openS
  split
  · exact ⟨Nat.le_add_right _ _, rfl⟩
  split
  · exact ⟨Nat.le_add_right _ _, rfl⟩
  split
  · exact ⟨Nat.le_add_right _ _, rfl⟩
  · rename_i l hl
    have h1 := homes_more S l
    have h2 := (slotsOf_pages hl).2
    have h3 := P_homes l S
    split
    · exact ⟨by show (homesS S l).2.writes ≤ _; omega, h3⟩
    · exact ⟨by show (homesS S l).2.writes ≤ _; omega, h3⟩
theorem commit_more {l : List (Int × List Int)} (hn : n = S.n) (hI : Imgs n seq l) : (commitS S seq l).2.2.writes ≤ S.writes + (2 * l.length + 1) ∧ (commitS S seq l).2.2.n = S.n ∧ seq ≤ (commitS S seq l).2.1 ∧ (commitS S seq l).2.1 ≤ seq + 1 := by
  have hP : S.P = pagesOf n := by unfold DS.P; rw [hn]
  have hfew := hI.few
  have h4 := (pagesOf_nn n).2.2
  have h0 := hI.seq0
  have h1 := hI.seq1
  have hright : rightS S l := ⟨fun x hx => by rw [hP]; exact hI.page x hx, hI.once⟩
  have he : rightE S l = 0 := by unfold rightE; rw [if_neg (by rw [hP]; omega), if_pos hright]
  have hsec : secR l.length (seq + 1) = true := decide_eq_true ⟨by omega, by omega, by omega, by omega⟩
  by_cases hne : l = []
  · subst hne
    rw [commit_nil]
    exact ⟨Nat.le_add_right _ _, rfl, Int.le_refl _, by show seq ≤ seq + 1; omega⟩
  rw [commitS_is he hne]
  have p1 := putS_more (atSlots 0 (packs (seq + 1) l)) S
  rw [atSlots_length, packs_length] at p1
  unfold commitP
  split
  · exact ⟨by show (putS S _).2.writes ≤ _; omega, p1.2, Int.le_refl _, by show seq ≤ seq + 1; omega⟩
  generalize (putS S (atSlots 0 (packs (seq + 1) l))).2 = S3 at p1 ⊢
  have p2 := putS_more [(0, secL l.length (seq + 1) zpage)] S3
  rw [mark_put _ hsec] at p2
  have p2' : (markS S3 l.length (seq + 1)).2.writes ≤ S3.writes + 1 := p2.1
  unfold commitM
  split
  · exact ⟨by show (markS S3 _ _).2.writes ≤ _; omega, p2.2.trans p1.2, Int.le_refl _, by show seq ≤ seq + 1; omega⟩
  have p3 := homes_more (markS S3 l.length (seq + 1)).2 (packs (seq + 1) l)
  rw [packs_length] at p3
  exact ⟨by show (homesS _ _).2.writes ≤ _; omega, (P_homes _ _).trans (p2.2.trans p1.2), by show seq ≤ seq + 1; omega, Int.le_refl _⟩
end

end Go.Proofs.YtinhdimalhfgkaaGreatDoor

/-
  Contracts of the program's pager's New and Commit. Conditions: those of the log's.
-/
namespace Go.Proofs.YtinhdimalhfgkaaGreatDoor
open Go.RowKit
set_option maxRecDepth 100000
set_option linter.unusedVariables false

section
variable {D : World → (Nat → Prop) → Addr → DS → Prop} {w w' : World} {F O : Nat → Prop} {p : Addr} {S : DS} {q r b : Nat} {seq : Int} {L : List (Int × List Int)}

/-- The blocks of a new pager. -/
def pgO (F : Nat → Prop) (q r b : Nat) (k : Nat) : Prop := F k ∨ k = q ∨ k = r ∨ k = b
set_option maxHeartbeats 400000 in
theorem pnew_any (api : DiskApi D) (hd : D w F p S) (hq : PLog w q p seq) (hqF : ¬ F q) (hp : 0 < pagesOf S.n) : Calls Tryz.prog 33 #[.pointer (some ⟨q, 0, none⟩)] w fun e w' => ∃ r b, e = .returned (.tuple #[.pointer (some ⟨r, 0, none⟩), .int .i64 0]) ∧ w.heap.size ≤ r ∧ w.heap.size ≤ b ∧ PgAt D w' F (pgO F q r b) p S q seq r b [] ∧ Below w.heap.size w w' := by
  have HP := Lib.hid (pages_same api hd hq)
  have hlt := api.lt _ _ _ _ hd
  have hql := hq.cells.2.2.2
  have k1 : (pagesOf S.n == 0) = false := by simp; omega
  have hX : Below w.heap.size w ((w.alloc (.map #[] 0)).alloc (.cells #[.pointer (some ⟨q, 0, none⟩), .map (some w.heap.size)] 141)) := ((Below.refl _ _).alloc (Nat.le_refl _) _).alloc (by simp) _
  have hblk : ((w.alloc (.map #[] 0)).alloc (.cells #[.pointer (some ⟨q, 0, none⟩), .map (some w.heap.size)] 141)).heap[w.heap.size + 1]? = some (.cells #[.pointer (some ⟨q, 0, none⟩), .map (some w.heap.size)] 141 (0, 0)) := by
    have := heap_alloc_new (w.alloc (.map #[] 0)) (.cells #[.pointer (some ⟨q, 0, none⟩), .map (some w.heap.size)] 141)
    simpa using this
  have hm : IMap ((w.alloc (.map #[] 0)).alloc (.cells #[.pointer (some ⟨q, 0, none⟩), .map (some w.heap.size)] 141)) w.heap.size 0 (fun _ => none) := (IMap.made w).of_block (heap_alloc_old _ _ (by simp))
  have hsX : ((w.alloc (.map #[] 0)).alloc (.cells #[.pointer (some ⟨q, 0, none⟩), .map (some w.heap.size)] 141)).heap.size = w.heap.size + 2 := by simp
  have HE := Lib.hid (show PgAt D ((w.alloc (.map #[] 0)).alloc (.cells #[.pointer (some ⟨q, 0, none⟩), .map (some w.heap.size)] 141)) F (pgO F q (w.heap.size + 1) w.heap.size) p S q seq (w.heap.size + 1) w.heap.size [] from
    ⟨api.below hd hX, hq.below hX, hblk, hqF, fun hf => by have := hlt _ hf; omega, fun hf => by have := hlt _ hf; omega, by omega, fun k hk => hk, fun k hk => by
      rw [hsX]
      rcases hk with a | a | a | a
      · have := hlt k a; omega
      · omega
      · omega
      · omega, ⟨_, hm, fun i => ⟨fun _ => rfl, fun l hl => by cases hl⟩⟩, List.Pairwise.nil, fun x hx => by cases hx⟩)
  have HX := Lib.hid hX
  have hmk := @run_makeMap Tryz.prog
  clear hd hq hX hblk hm hsX
  go_enter Tryz.func33, Tryz.ntmps33
  go_wp2_with fail
  refine HP.out.mono ?_
  rintro e w1 ⟨rfl, hw⟩
  have hw := hw.symm
  subst hw
  go_wp2
  go_ret2
  exact ⟨w.heap.size + 1, w.heap.size, rfl, Nat.le_succ _, Nat.le_refl _, HE.out, HX.out⟩

theorem imgs_of (h : Rising L) (h2 : AllSet S L) (hs : 0 ≤ seq ∧ seq < 4611686018427387904) : Imgs S.n seq L :=
  ⟨fun x hx => ⟨(h2 x hx).1, (h2 x hx).2.1, (h2 x hx).2.2.1⟩, fun x hx => (h2 x hx).2.2.2, h.nodup, few_set h h2, hs.1, hs.2⟩
theorem commit_n (h : Rising L) (h2 : AllSet S L) (hs : 0 ≤ seq ∧ seq < 4611686018427387904) : (commitS S seq L).2.2.n = S.n := (commit_more (n := S.n) rfl (imgs_of h h2 hs)).2.1

/-- The log has committed; what was set stands still. -/
theorem PgAt.committed (api : DiskApi D) (h : PgAt D w F O p S q seq r b L) {F' : Nat → Prop} {S' : DS} {seq' : Int} (hn : S'.n = S.n) (hd : D w' F' p S') (hl : PLog w' q p seq') (hqF : ¬ F' q) (ht : Touch (orAt F q) w w') (hF : ∀ k, F' k → F k ∨ w.heap.size ≤ k) : PgAt D w' F' (fun k => O k ∨ F' k) p S' q seq' r b L := by
  have hrl := h.cells.2.2
  obtain ⟨f, hf, hset⟩ := id h.set
  have hbl := hf.lt
  have hbq : b ≠ q := fun e => by
    obtain ⟨es, c, e2⟩ := hf.block
    have := h.log
    unfold PLog at this
    rw [← e, e2] at this
    cases this
  have hP : S'.P = S.P := by unfold DS.P; rw [hn]
  refine ⟨hd, hl, (ht.block r hrl (fun a => a.elim h.rF h.rq)).trans h.me, hqF, fun a => ?_, fun a => ?_, h.rq, fun k hk => ?_, fun k hk => ?_, h.set.keep ht.size (ht.block b hbl (fun a => a.elim h.bF hbq)) (fun g hg _ hx => ht.block g hg (fun a => a.elim (fun a => hx (.inl a)) (fun a => hx (.inr (.inl a))))) (fun g hg _ hx a => ?_) (fun g ho => .inl ho), h.up, fun x hx => by rw [hP]; exact h.all x hx⟩
  · rcases hF r a with a | a
    · exact h.rF a
    · omega
  · rcases hF b a with a | a
    · exact h.bF a
    · omega
  · rcases hk with a | a
    · exact .inr a
    · exact .inl (h.own k (.inr a))
  · rcases hk with a | a
    · exact Nat.lt_of_lt_of_le (h.lt k a) ht.size
    · exact api.lt _ _ _ _ hd k a
  · rcases a with a | a
    · rcases hF g a with a | a
      · exact hx (.inl a)
      · omega
    · exact hx (.inr a)

/-- A Commit's end. -/
def PgDone (D : World → (Nat → Prop) → Addr → DS → Prop) (w : World) (F O : Nat → Prop) (p : Addr) (S : DS) (q : Nat) (seq : Int) (r b : Nat) (L : List (Int × List Int)) (w' : World) : Prop :=
  ∃ F' O', PgAt D w' F' O' p (commitS S seq L).2.2 q (commitS S seq L).2.1 r b (leftPg S seq L) ∧ Touch O w w' ∧ (∀ k, F' k → F k ∨ w.heap.size ≤ k) ∧ ∀ k, O' k → O k ∨ w.heap.size ≤ k

set_option maxHeartbeats 4000000 in
theorem pcommit_any (api : DiskApi D) (h : PgAt D w F O p S q seq r b L) (ht : TabF w F) (hs : 0 ≤ seq ∧ seq < 4611686018427387904) (hw : S.writes ≤ 9223372036854500000) :
    Calls Tryz.prog 37 #[.pointer (some ⟨r, 0, none⟩)] w fun e w' => e = .returned (.int .i64 (commitS S seq L).1) ∧ PgDone D w F O p S q seq r b L w' := by
  obtain ⟨l0, l1, l2⟩ := h.cells
  have hpb := pagesOf_bounds (S.n : Int)
  have hfew := few_set h.up h.all
  have hL : L.length ≤ 32767 := by unfold DS.P at hfew; omega
  have hcn := commit_n h.up h.all hs
  have HM := Lib.hid (pmade_any h)
  have HCH := Lib.hid (pchanged_any api h)
  have HH := Lib.hid (fun w1 (hb : Below w.heap.size w w1) => h.below api hb)
  have HT := Lib.hid (fun w1 (hb : Below w.heap.size w w1) => ht.below hb)
  have HOX := Lib.hid (fun k (hk : orAt F q k) => h.lt k (h.own k (hk.elim (fun a => .inl a) (fun a => .inr (.inl a)))))
  have HALL := Lib.hid h.all
  have HUP := Lib.hid h.up
  have HOL := Lib.hid h.lt
  have HOW := Lib.hid h.own
  clear h ht hfew hpb
  go_enter Tryz.func37, Tryz.ntmps37
  go_wp2_with fail
  refine HM.out.mono ?_
  rintro e w1 ⟨rfl, rfl⟩
  go_wp2_with fail
  refine HCH.out.mono ?_
  rintro e w1 ⟨A, c, rfl, hc, hri, hb1⟩
  have HB1 := Lib.hid hb1
  have HRI := Lib.hid hri
  clear hb1 hri HCH HM
  go_wp2_with fail
  go_loopw [3, 13] (fun ov i wr => ∃ k : Nat, k ≤ L.length ∧ i = .int .i64 k ∧ Hid (PRow 151 240 wr (orAt F q) w1.heap.size ov (L.take k)) ∧ Hid (Below w1.heap.size w1 wr)) (fun _ i _ => L.length - (intOf i).toNat)
  case atStart => exact ⟨0, Nat.zero_le _, rfl, Lib.hid (PRow.start _ _ _ _ _), Lib.hid (Below.refl _ _)⟩
  case round =>
    obtain ⟨k, hk, rfl, hrow, hbw⟩ := hrel
    have hb0 := HB1.out.trans (hbw.out.mono HB1.out.size)
    by_cases hlt : k < L.length
    · have hlt' : (k : Int) < (L.length : Int) := by omega
      obtain ⟨bb, off, rfl, hbb, hcell⟩ := HRI.out.2.2 (by omega)
      have hck := (hbw.out.cell (p := ⟨bb, off + k, none⟩) hbb).trans (hcell k hlt)
      have hPg := HH.out wr hb0
      obtain ⟨f, hf, hset⟩ := hPg.set
      obtain ⟨y, hkk⟩ : ∃ y, L[k]? = some y := ⟨_, List.getElem?_eq_getElem hlt⟩
      have hmem : y ∈ L := List.mem_of_getElem? hkk
      have HTK : L.take (k + 1) = L.take k ++ [(y.1, y.2)] := by
        rw [List.take_succ_eq_append_getElem hlt]
        have := (List.getElem?_eq_some_iff.1 hkk).2
        rw [this]
      obtain ⟨a1, a2, a3, a4⟩ := HALL.out _ hmem
      obtain ⟨g, c1, e1, hc1, hrg, hgX, hgO⟩ := (hset y.1).2 y.2 (HUP.out.at_ hmem)
      have hpb := pagesOf_bounds (S.n : Int)
      have hib : -9223372036854775808 ≤ y.1 ∧ y.1 ≤ 9223372036854775807 := by unfold DS.P at a2; omega
      have qlk := hf.get Tryz.underlying123 (zero_slice wr) hib e1
      have hge : (L.map (·.1))[k]?.getD 0 = y.1 := by rw [List.getElem?_map, hkk]; rfl
      rw [hge] at hck
      have l1w := (hb0.cell (p := ⟨r, 1, none⟩) l2).trans l1
      have hgl : g < w.heap.size := HOL.out g hgO
      have hgw : g < wr.heap.size := Nat.lt_of_lt_of_le hgl hb0.size
      obtain ⟨A0, c0, rfl, hAc, _⟩ := hrow.out.imgs (by decide)
      obtain ⟨vs, hvs, hvl⟩ := hrow.out.row
      have hX : Below wr.heap.size wr (wr.alloc (.cells #[.int .i64 y.1, .slice (some ⟨g, 0, none⟩) 240 c1] 151)) := (Below.refl _ _).alloc (Nat.le_refl _) _
      have hvsX := own_stays hvs (fun r hr => hX.block r (own_at hvs r hr).2)
      have hbk := heap_alloc_new wr (.cells #[.int .i64 y.1, .slice (some ⟨g, 0, none⟩) 240 c1] 151)
      have hno : (Value.slice A0 (L.take k).length c0).ownBlock ≠ some g := fun e => by
        have := (own_at hvs g e).1
        have := HB1.out.size
        omega
      have hfar : Far wr (orAt F q) (.slice A0 (L.take k).length c0) (.slice (some ⟨g, 0, none⟩) 240 c1) 240 y.2 := ⟨g, c1, rfl, hc1, fun hf => hgX (hf.elim (fun a => .inl a) (fun a => .inr (.inl a))), hno, hgw, hrg⟩
      have HPU := Lib.hid (fun (w3 : World) (A' : Option Addr) (c' : Nat) h1 h2 h3 => hrow.out.push (v' := .slice A' ((L.take k).length + 1) c') (w1 := w3) (x := y.1) (by decide) (fun k hk => Nat.lt_of_lt_of_le (HOX.out k hk) hb0.size) hfar hvs hvl hX h1 h2 h3)
      have HOV := Lib.hid (fun r hr => (own_at hvs r hr).1)
      have HTL : (L.take k).length = k := by rw [List.length_take]; omega
      have HTKH := Lib.hid HTK
      have hk64 : (L.take k).length ≤ 4294967296 := by omega
      have HX := Lib.hid hX
      have HB0 := Lib.hid hb0
      have hb0s := hb0.size
      have hbws := hbw.out.size
      clear hcell hPg hset hf hkk hmem a1 a2 a3 a4 hrg hgX hgO hge hrow hfar hvl hno hX hib hpb hb0 HTK HTL e1
      generalize L.take k = LL at *
      generalize y.1 = y1 at *
      generalize y.2 = y2 at *
      go_wp2_with (at_builtin; refine wpList_append_two rfl _ _ 148 151 rfl Tryz.underlying148 info_image w1.heap.size (.slice A0 LL.length c0) LL.length vs rfl wr.heap.size (.int .i64 y1) (.slice (some ⟨g, 0, none⟩) 240 c1) 151 rfl hvsX hbk rfl rfl (by omega) (by simp; omega) ?_; intro A4 c4 w4 hown4 hg4 hl4; have HO4 := Lib.hid (And.intro hown4 (And.intro hg4 hl4)); clear hown4 hg4 hl4)
      obtain ⟨q1, q2, q3⟩ := HPU.out w4 A4 c4 HO4.out.1 HO4.out.2.1 (by
        rcases HO4.out.2.2 with a | a
        · exact .inl a
        · exact .inr ⟨_, a, by simp⟩)
      have hb4 : Below w1.heap.size w1 w4 := (hbw.out.trans (HX.out.mono hbw.out.size)).grown HO4.out.2.1 (by have := HX.out.size; have := hbw.out.size; omega) HOV.out
      have HRE := Lib.hid (And.intro q1 hb4)
      clear q1 q2 q3 hb4 hvsX hbk HO4 HPU hvs
      go_roundw
      case rel => exact ⟨k + 1, by omega, by go_num, Lib.hid (HTKH.out ▸ HRE.out.1), Lib.hid HRE.out.2⟩
      case measure => simp [intOf]; omega
    · obtain rfl : k = L.length := by omega
      have hrow2 := hrow.out
      rw [List.take_length] at hrow2
      obtain ⟨A0, c0, rfl, hAc, him⟩ := hrow2.imgs (by decide)
      have hPg := HH.out wr hb0
      have l0w := (hb0.cell (p := ⟨r, 0, none⟩) l2).trans l0
      have HCM := Lib.hid (commit_any (c := c0) api hPg.d hPg.log hPg.qF (HT.out wr hb0) him (fun y hy => (HALL.out y hy).2.2.2) (fun y hy => by
        have a := HALL.out y hy
        have hpb := pagesOf_bounds (S.n : Int)
        unfold DS.P at a
        omega) (by omega) hs hw)
      have HPG := Lib.hid (And.intro hPg hb0)
      clear hrow hrow2 him hPg hbw hb0
      go_wp2_with fail
      refine HCM.out.mono ?_
      rintro e w5 ⟨rfl, F', d5, hl5, hq5, t5, n5⟩
      have h5 := HPG.out.1.committed api hcn d5 hl5 hq5 t5 n5
      have hT5 : Touch O w w5 := ⟨t5.os.trans HPG.out.2.os, t5.tape.trans HPG.out.2.tape, t5.output.trans HPG.out.2.output, Nat.le_trans HPG.out.2.size t5.size, fun k hk hn => (t5.block k (Nat.lt_of_lt_of_le hk HPG.out.2.size) (fun a => hn (HOW.out k (a.elim (fun a => .inl a) (fun a => .inr (.inl a)))))).trans (HPG.out.2.block k hk)⟩
      have hN5 : ∀ k, F' k → F k ∨ w.heap.size ≤ k := fun k hk => (n5 k hk).imp id (fun a => Nat.le_trans HPG.out.2.size a)
      have hO5 : ∀ k, (O k ∨ F' k) → O k ∨ w.heap.size ≤ k := fun k hk => hk.elim .inl (fun a => (hN5 k a).imp (fun a => HOW.out k (.inl a)) id)
      by_cases hc0 : (commitS S seq L).1 = 0
      · have kne : ((commitS S seq L).1 != 0) = false := by simpa using hc0
        obtain ⟨f, hf, hset⟩ := h5.set
        obtain ⟨w6, hrun6, hm6, hg6⟩ := hf.clear_ Tryz.underlying123 0
        obtain ⟨_, l15, _⟩ := h5.cells
        have hleft : leftPg S seq L = [] := if_pos hc0
        have HE := Lib.hid (show PgDone D w F O p S q seq r b L w6 from by
          refine ⟨F', _, by rw [hleft]; exact h5.empty api hm6 hg6, ?_, hN5, hO5⟩
          have t6 := touch_grown (X := O) hg6 (HOW.out b (.inr (.inr (.inr rfl))))
          exact ⟨t6.os.trans hT5.os, t6.tape.trans hT5.tape, t6.output.trans hT5.output, Nat.le_trans hT5.size t6.size, fun k hk hn => (t6.block k (Nat.lt_of_lt_of_le hk hT5.size) hn).trans (hT5.block k hk hn)⟩)
        have HC0 := Lib.hid hc0
        clear hf hset hm6 hg6 h5 hT5 hN5 hO5 d5 hl5 t5 n5 hc0 hleft
        go_wp2
        go_ret
        rw [HC0.out]
        exact ⟨rfl, HE.out⟩
      · have kne : ((commitS S seq L).1 != 0) = true := by simpa using hc0
        have hleft : leftPg S seq L = L := if_neg hc0
        have HE := Lib.hid (show PgDone D w F O p S q seq r b L w5 from ⟨F', _, by rw [hleft]; exact h5, hT5, hN5, hO5⟩)
        clear h5 hT5 hN5 hO5 d5 hl5 t5 n5 hc0 hleft
        go_wp2
        go_ret
        exact ⟨rfl, HE.out⟩
end

end Go.Proofs.YtinhdimalhfgkaaGreatDoor

/-
  append of one int, and of one slice, as a step of a region that draws. Condition: fewer than 2^42 elements.
-/
namespace Go.Proofs.YtinhdimalhfgkaaGreatDoor
open Go.RowKit
set_option maxRecDepth 100000
set_option linter.unusedVariables false

theorem step_append_int1 {w : World} {ops : Array Oper} {o : Oper} {a : Act} {K : Act → World → Prop} {Q : Exit → Act → World → Prop} {E : Prop} (hgd : o.guard = none) (s x : Operand)
    (ho : o.op = .call { callee := .builtin .append, args := #[s, x], argTypes := #[39, 39] })
    (base : Nat) (v : Value) (n : Nat) (xs : List Value) (hs : a.eval s = v) (b : Nat) (z : Int) (T : TypeId) (hx : a.eval x = .slice (some ⟨b, 0, none⟩) 1 1)
    (hown : w.ownsRow base 3 1 v n xs) (hb : w.heap[b]? = some (.cells #[.int .i64 z] T)) (h63 : n ≤ 8796093022207) (hbase : base ≤ w.heap.size)
    (h : ∀ g c' w', w'.ownsRow base 3 1 (.slice (some ⟨g, 0, none⟩) (n + 1) c') (n + 1) (xs ++ [.int .i64 z]) → w.grownBy w' v.ownBlock → ((Value.slice (some ⟨g, 0, none⟩) (n + 1) c').ownBlock = v.ownBlock ∨ ∃ r, (Value.slice (some ⟨g, 0, none⟩) (n + 1) c').ownBlock = some r ∧ w.heap.size ≤ r) → K (a.put o.dst (.slice (some ⟨g, 0, none⟩) (n + 1) c')) w') :
    if Region.wanted o (yielded ops a.tmps) = true then Oper.wp Tryz.prog o a w K Q else E := by
  obtain ⟨i0, hi, hz0, hz1, hz2⟩ := info_parts info_int
  refine step_append_lies w hgd s x 39 ho base 3 i0 (.int .i64 0) 1 8 Tryz.underlying39 hi hz0 hz1 hz2 rfl (by decide) v n xs hs hown ⟨b, 0, none⟩ 1 1 [.int .i64 z] hx rfl (World.news_of_block (cs := #[.int .i64 z]) hb) (fun u hu => by obtain rfl := List.mem_singleton.1 hu; rfl) (by decide) (by unfold maxLen; omega) (by omega) hbase w.heap.size rfl ?_
  intro g cap w' h1 h2 h3 _
  refine h g cap w' h1 h2 ?_
  rcases h3 with e | e
  · exact .inl e.symm
  · exact .inr ⟨g, rfl, by omega⟩
theorem step_append_slice1 {w : World} {ops : Array Oper} {o : Oper} {a : Act} {K : Act → World → Prop} {Q : Exit → Act → World → Prop} {E : Prop} (hgd : o.guard = none) (s x : Operand)
    (ho : o.op = .call { callee := .builtin .append, args := #[s, x], argTypes := #[127, 127] })
    (base : Nat) (v : Value) (n : Nat) (xs : List Value) (hs : a.eval s = v) (b : Nat) (A : Option Addr) (k c : Nat) (T : TypeId) (hx : a.eval x = .slice (some ⟨b, 0, none⟩) 1 1)
    (hown : w.ownsRow base 46 1 v n xs) (hb : w.heap[b]? = some (.cells #[.slice A k c] T)) (h63 : n ≤ 4398046511103) (hbase : base ≤ w.heap.size)
    (h : ∀ g c' w', w'.ownsRow base 46 1 (.slice (some ⟨g, 0, none⟩) (n + 1) c') (n + 1) (xs ++ [.slice A k c]) → w.grownBy w' v.ownBlock → ((Value.slice (some ⟨g, 0, none⟩) (n + 1) c').ownBlock = v.ownBlock ∨ ∃ r, (Value.slice (some ⟨g, 0, none⟩) (n + 1) c').ownBlock = some r ∧ w.heap.size ≤ r) → K (a.put o.dst (.slice (some ⟨g, 0, none⟩) (n + 1) c')) w') :
    if Region.wanted o (yielded ops a.tmps) = true then Oper.wp Tryz.prog o a w K Q else E := by
  obtain ⟨i0, hi, hz0, hz1, hz2⟩ := info_parts info_slice
  refine step_append_lies w hgd s x 127 ho base 46 i0 (.slice none 0 0) 1 24 Tryz.underlying127 hi hz0 hz1 hz2 rfl (by decide) v n xs hs hown ⟨b, 0, none⟩ 1 1 [.slice A k c] hx rfl (World.news_of_block (cs := #[.slice A k c]) hb) (fun u hu => by obtain rfl := List.mem_singleton.1 hu; rfl) (by decide) (by unfold maxLen; omega) (by omega) hbase w.heap.size rfl ?_
  intro g cap w' h1 h2 h3 _
  refine h g cap w' h1 h2 ?_
  rcases h3 with e | e
  · exact .inl e.symm
  · exact .inr ⟨g, rfl, by omega⟩

end Go.Proofs.YtinhdimalhfgkaaGreatDoor

/-
  Contract of the plain log's Commit, over the plain disk. Conditions: at most 65,536 images of bytes; a seq from 0 to 2^62 - 1; fewer than 2^63 - 1 writes.
-/
namespace Go.Proofs.YtinhdimalhfgkaaGreatDoor
open Go.RowKit
set_option maxRecDepth 100000
set_option linter.unusedVariables false

theorem slotsS_cons (S : DS) (i : Int) (y : Int × List Int) (r : List (Int × List Int)) : slotsS S i (y :: r) = thenS (S.wr (i + 1) y.2) (fun S' => slotsS S' (i + 1) r) := by
  obtain ⟨p, b⟩ := y
  rfl

section
variable {w : World} {G : Nat → Prop} {x : Addr} {S : DS} {q : Nat} {seq : Int} {l : List (Int × List Int)}

/-! what commitS is, arm by arm -/
theorem commitS_full (h : (l.length : Int) > S.P) : commitS S seq l = (6, seq, S) := by unfold commitS; rw [if_pos h]
theorem commitS_wrong (h : ¬ (l.length : Int) > S.P) (h2 : ¬ rightS S l) : commitS S seq l = (1, seq, S) := by unfold commitS; rw [if_neg h, if_pos h2]
theorem commitS_none (h : ¬ (l.length : Int) > S.P) (h2 : rightS S l) (h3 : l = []) : commitS S seq l = (0, seq, S) := by unfold commitS; rw [if_neg h, if_neg (fun h' => h' h2), if_pos h3]
/-- What comes behind the slots. -/
def commitB (S : DS) (seq : Int) (l : List (Int × List Int)) (a : Int × DS) : Int × Int × DS :=
  if a.1 ≠ 0 then (a.1, seq, a.2) else
  if (markS a.2 l.length (seq + 1)).1 ≠ 0 then ((markS a.2 l.length (seq + 1)).1, seq, (markS a.2 l.length (seq + 1)).2) else
  ((homesS (markS a.2 l.length (seq + 1)).2 (packs (seq + 1) l)).1, seq + 1, (homesS (markS a.2 l.length (seq + 1)).2 (packs (seq + 1) l)).2)
theorem commitS_some (h : ¬ (l.length : Int) > S.P) (h2 : rightS S l) (h3 : l ≠ []) : commitS S seq l = commitB S seq l (thenS (slotsS S 0 (packs (seq + 1) l)) DS.fl) := by
  unfold commitS
  rw [if_neg h, if_neg (fun h' => h' h2), if_neg h3]
  rfl

theorem putS_more' (l : List (Int × List Int)) : ∀ S : DS, (putS S l).2.writes ≤ S.writes + l.length ∧ (putS S l).2.n = S.n := by
  induction l with
  | nil =>
    intro S
    refine ⟨?_, P_flush S⟩
    show S.flush.writes ≤ _
    unfold DS.flush
    split <;> simp
  | cons y r ih =>
    intro S
    rw [putS_cons]
    have h1 := write_more S y.1 y.2
    by_cases h : (S.wr y.1 y.2).1 = 0
    · rw [thenS_ok h]
      have h2 := ih (S.wr y.1 y.2).2
      have e1 : (S.wr y.1 y.2).2.writes ≤ S.writes + 1 := h1.1
      have e2 : (S.wr y.1 y.2).2.n = S.n := h1.2
      rw [List.length_cons]
      exact ⟨by omega, h2.2.trans e2⟩
    · rw [thenS_no h, List.length_cons]
      exact ⟨by have : (S.wr y.1 y.2).2.writes ≤ S.writes + 1 := h1.1; omega, h1.2⟩
theorem mark_put' (S : DS) {c s : Int} (h : secR c s = true) : putS S [(0, secL c s zpage)] = markS S c s := (markS_sec S h).symm
/-- Kept over a call that writes to the disk alone. -/
theorem TwoRows.touchQ {w1 w2 : World} {G1 G2 : Nat → Prop} {base : Nat} {ov pv : Value} {l : List (Int × List Int)} (h : TwoRows w1 (orAt G1 q) base ov pv l) (ht : Touch G1 w1 w2) (hG : ∀ k, G2 k → G1 k ∨ w1.heap.size ≤ k) : TwoRows w2 (orAt G2 q) base ov pv l :=
  h.keep ht.size (fun k hk hn hf => by
    rcases hf with a | a
    · rcases hG k a with b | b
      · exact hn (.inl b)
      · omega
    · exact hn (.inr a)) (fun k hk hn => ht.block k hk (fun hf => hn (.inl hf)))
end

end Go.Proofs.YtinhdimalhfgkaaGreatDoor
