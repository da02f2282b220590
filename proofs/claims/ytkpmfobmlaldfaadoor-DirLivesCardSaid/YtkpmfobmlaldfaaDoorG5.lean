/-
  The texts RedoPG, RedoPH, PgM, PgA, RedoE, RedoLaw, PgB, Own, PgC, RedoWP, RedoAt, PgD, StepApp, RedoRG, PgR, PgS joined. Conditions: those that each part says at its head.
-/
import Derived.Test.YtkpmfobmlaldfaaDoorG4
import Derived.Test.YtkpmfobmlaldfaaDoorG3
import Derived.Test.YtkpmfobmlaldfaaDoorG2
import Derived.Maps.Range
import Derived.StillTailTactics
import Derived.Deep.AppendLies
import Derived.Deep.RegionLaw
import Derived.Deep.RegionHeld3
import Derived.BigRegion

/-
  Contract of the program's pieces: what a commit writes, packed; over any disk that answers as it is to. Conditions: images that may be committed, at most 65,536; the table that crc.Step reads holds what the program's text lays in it, apart from the disk.
-/
namespace Go.Proofs.YtkpmfobmlaldfaaDoor
open Go.RowKit
set_option maxRecDepth 100000
set_option linter.unusedVariables false

/-- Sectors in the slots, from i on. -/
def atSlots (i : Nat) : List (Int × List Int) → List (Int × List Int)
  | [] => []
  | y :: r => ((i : Int) + 1, y.2) :: atSlots (i + 1) r
theorem atSlots_length (l : List (Int × List Int)) : ∀ i, (atSlots i l).length = l.length := by
  induction l with
  | nil => intro i; rfl
  | cons y r ih => intro i; simp [atSlots, ih]
theorem atSlots_append (l : List (Int × List Int)) (y : Int × List Int) : ∀ i, atSlots i (l ++ [y]) = atSlots i l ++ [(((i + l.length : Nat) : Int) + 1, y.2)] := by
  induction l with
  | nil => intro i; simp [atSlots]
  | cons z r ih =>
    intro i
    simp only [List.cons_append, atSlots, ih, List.length_cons]
    rw [show i + 1 + r.length = i + (r.length + 1) by omega]
theorem atSlots_snd (l : List (Int × List Int)) : ∀ i, ∀ y ∈ atSlots i l, ∃ z ∈ l, y.2 = z.2 := by
  induction l with
  | nil => intro i y hy; cases hy
  | cons z r ih =>
    intro i y hy
    rcases List.mem_cons.1 hy with rfl | hy
    · exact ⟨z, List.mem_cons_self .., rfl⟩
    · obtain ⟨u, hu, e⟩ := ih _ y hy
      exact ⟨u, List.mem_cons_of_mem _ hu, e⟩
theorem putS_slots (l : List (Int × List Int)) : ∀ (S : DS) (i : Nat), putS S (atSlots i l) = thenS (slotsS S i l) DS.fl := by
  induction l with
  | nil => intro S i; exact (thenS_ok (r := (0, S)) rfl).symm
  | cons y r ih =>
    intro S i
    obtain ⟨pg, b⟩ := y
    show thenS (S.wr ((i : Int) + 1) b) (fun S' => putS S' (atSlots (i + 1) r)) = thenS (thenS (S.wr ((i : Int) + 1) b) (fun S' => slotsS S' ((i : Int) + 1) r)) DS.fl
    by_cases h : (S.wr ((i : Int) + 1) b).1 = 0
    · rw [thenS_ok h, thenS_ok h]
      have := ih (S.wr ((i : Int) + 1) b).2 (i + 1)
      rw [show (((i + 1 : Nat) : Int)) = (i : Int) + 1 by omega] at this
      exact this
    · rw [thenS_no h, thenS_no h, thenS_no h]

section
variable {D : World → (Nat → Prop) → Addr → DS → Prop} {w : World} {F : Nat → Prop} {p : Addr} {S : DS} {q : Nat} {seq : Int}

theorem slot_own {W : World} {o : Obj} {A : Option Addr} {n c : Nat} {v : Value} (h : (Value.slice A n c).ownBlock = v.ownBlock ∨ (Value.slice A n c).ownBlock = some (W.alloc o).heap.size) : (Value.slice A n c).ownBlock = v.ownBlock ∨ ∃ r, (Value.slice A n c).ownBlock = some r ∧ W.heap.size ≤ r := h.imp id (fun e => ⟨_, e, by simp⟩)
theorem frozen_setCell (w : World) (a b : Addr) (v : Value) : (w.setCell a v).frozen? b = w.frozen? b := by
  unfold World.frozen?
  by_cases h : b.block = a.block
  · rw [h]
    simp only [World.setCell, Array.getElem?_modify]
    simp
    cases hh : w.heap[a.block]? with
    | none => rfl
    | some o => cases o <;> rfl
  · rw [Below.heap_setCell _ _ _ _ h]
/-- Or that block. -/
def orAt (F : Nat → Prop) (b : Nat) : Nat → Prop := fun k => F k ∨ k = b
/-- With another row's block. -/
def andOwn (F : Nat → Prop) (v : Value) : Nat → Prop := fun k => F k ∨ v.ownBlock = some k
/-- Between two rounds of pieces. -/
def TwoP (B : Nat) (wr : World) (F : Nat → Prop) (ov pv : Value) (l1 l2 : List (Int × List Int)) : Prop :=
  PRow 81 256 wr (andOwn F pv) B ov l1 ∧ PRow 81 256 wr (andOwn F ov) B pv l2

theorem TwoP.swap {B : Nat} {wr : World} {ov pv : Value} {l1 l2 : List (Int × List Int)} (h : TwoP B wr F ov pv l1 l2) : TwoP B wr F pv ov l2 l1 := ⟨h.2, h.1⟩
theorem TwoP.below {B : Nat} {wr w1 : World} {ov pv : Value} {l1 l2 : List (Int × List Int)} (h : TwoP B wr F ov pv l1 l2) (hb : Below wr.heap.size wr w1) : TwoP B w1 F ov pv l1 l2 := ⟨h.1.below (by decide) hb, h.2.below (by decide) hb⟩
/-- One list has one more. -/
theorem TwoP.push {B : Nat} {wr X w1 : World} {ov pv ov' : Value} {l1 l2 : List (Int × List Int)} {x : Int} {b : List Int} {g cg : Nat} (h : TwoP B wr F ov pv l1 l2) (hFlt : ∀ k, F k → k < wr.heap.size)
    (hfar : 256 ≤ cg ∧ ¬ F g ∧ ov.ownBlock ≠ some g ∧ pv.ownBlock ≠ some g ∧ g < wr.heap.size ∧ RB wr wr.heap.size (some ⟨g, 0, none⟩) 256 b)
    {vs : List Value} (hvs : wr.ownsRow B 81 2 ov l1.length vs) (hvl : ∀ (i : Nat) (x : Int × List Int), l1[i]? = some x → vs[i * 2]? = some (.int .i64 x.1) ∧ ∃ u, vs[i * 2 + 1]? = some u ∧ Far wr (andOwn F pv) ov u 256 x.2)
    (hX : Below wr.heap.size wr X) (hown : w1.ownsRow B 81 2 ov' (l1.length + 1) (vs ++ [.int .i64 x, .slice (some ⟨g, 0, none⟩) 256 cg])) (hg : X.grownBy w1 ov.ownBlock) (hl : ov'.ownBlock = ov.ownBlock ∨ ∃ r, ov'.ownBlock = some r ∧ wr.heap.size ≤ r) :
    TwoP B w1 F ov' pv (l1 ++ [(x, b)]) l2 ∧ wr.heap.size ≤ w1.heap.size ∧ (∀ k, k < wr.heap.size → ov.ownBlock ≠ some k → w1.heap[k]? = wr.heap[k]?) ∧ (ov'.ownBlock ≠ some g ∧ pv.ownBlock ≠ some g ∧ g < w1.heap.size ∧ RB w1 w1.heap.size (some ⟨g, 0, none⟩) 256 b) := by
  obtain ⟨h1, h2⟩ := h
  obtain ⟨f1, f2, f3, f4, f5, f6⟩ := hfar
  obtain ⟨vs2, hv2, _⟩ := h2.row
  obtain ⟨q1, q2, q3⟩ := h1.push (x := x) (b := b) (by decide) (fun k hk => by
    rcases hk with a | a
    · exact hFlt k a
    · exact (own_at hv2 k a).2) ⟨g, cg, rfl, f1, fun hf => by
      rcases hf with a | a
      · exact f2 a
      · exact f4 a, f3, f5, f6⟩ hvs hvl hX hown hg hl
  have hng : ov'.ownBlock ≠ some g := fun e => by
    rcases hl with a | ⟨r, a, hr⟩
    · exact f3 (a.symm.trans e)
    · rw [a] at e; injection e with e; omega
  refine ⟨⟨q1, h2.keep (by decide) q2 (fun k hk hn hf => ?_) (fun k hk hn => q3 k hk (fun e => hn (.inr e)))⟩, q2, q3, hng, f4, by omega, f6.there (by decide) (q3 g f5 f3) q2⟩
  rcases hf with a | a
  · exact hn (.inl a)
  · rcases hl with e | ⟨r, e, hr⟩
    · exact hn (.inr (e.symm.trans a))
    · rw [e] at a; injection a with a; omega

end

end Go.Proofs.YtkpmfobmlaldfaaDoor

/-
  Contract of the program's Commit, over any disk that answers as it is to. Conditions: at most 65,536 images of bytes; a seq from 0 to 2^62 - 1; fewer than 2^63 - 1 writes; the table that crc.Step reads holds what the program's text lays in it, apart from the disk and the log.
-/
namespace Go.Proofs.YtkpmfobmlaldfaaDoor
open Go.RowKit
set_option maxRecDepth 100000
set_option linter.unusedVariables false

/-! what commitS is, arm by arm -/
section
variable {S : DS} {seq : Int} {l : List (Int × List Int)}
/-- What comes behind the slots. -/
def commitM (S3 : DS) (seq : Int) (l : List (Int × List Int)) : Int × Int × DS :=
  if (markS S3 l.length (seq + 1)).1 ≠ 0 then ((markS S3 l.length (seq + 1)).1, seq, (markS S3 l.length (seq + 1)).2) else
  ((homesS (markS S3 l.length (seq + 1)).2 (packs (seq + 1) l)).1, seq + 1, (homesS (markS S3 l.length (seq + 1)).2 (packs (seq + 1) l)).2)
/-- What comes behind the test of images. -/
def commitP (S : DS) (seq : Int) (l : List (Int × List Int)) : Int × Int × DS :=
  if (putS S (atSlots 0 (packs (seq + 1) l))).1 ≠ 0 then ((putS S (atSlots 0 (packs (seq + 1) l))).1, seq, (putS S (atSlots 0 (packs (seq + 1) l))).2) else
  commitM (putS S (atSlots 0 (packs (seq + 1) l))).2 seq l
theorem commitS_is (h1 : rightE S l = 0) (h2 : l ≠ []) : commitS S seq l = commitP S seq l := by
  unfold rightE at h1
  by_cases ha : (l.length : Int) > S.P
  · rw [if_pos ha] at h1; cases h1
  rw [if_neg ha] at h1
  by_cases hb : rightS S l
  · unfold commitS commitP
    rw [if_neg ha, if_neg (fun h => h hb), if_neg h2, putS_slots]
    rfl
  · rw [if_neg hb] at h1; cases h1
theorem commitS_not (h : rightE S l ≠ 0 ∨ l = []) : commitS S seq l = (rightE S l, seq, S) := by
  unfold rightE at *
  unfold commitS
  by_cases ha : (l.length : Int) > S.P
  · rw [if_pos ha, if_pos ha]
  rw [if_neg ha] at h ⊢
  rw [if_neg ha]
  by_cases hb : rightS S l
  · rw [if_pos hb] at h ⊢
    rw [if_neg (fun h => h hb), if_pos (h.resolve_left (fun h => h rfl))]
  · rw [if_neg hb, if_pos hb]
theorem right_is (h : rightE S l = 0) : rightS S l ∧ (l.length : Int) ≤ S.P := by
  unfold rightE at h
  by_cases ha : (l.length : Int) > S.P
  · rw [if_pos ha] at h; cases h
  rw [if_neg ha] at h
  by_cases hb : rightS S l
  · exact ⟨hb, by omega⟩
  · rw [if_neg hb] at h; cases h
end

theorem putS_more (l : List (Int × List Int)) : ∀ S : DS, (putS S l).2.writes ≤ S.writes + l.length ∧ (putS S l).2.n = S.n := by
  induction l with
  | nil =>
    intro S
    refine ⟨?_, P_flush S⟩
    show S.flush.writes ≤ _
    unfold DS.flush
    split <;> simp
  | cons y r ih =>
    intro S
    rw [putS_cons]
    have h1 := write_more S y.1 y.2
    by_cases h : (S.wr y.1 y.2).1 = 0
    · rw [thenS_ok h]
      have h2 := ih (S.wr y.1 y.2).2
      have e1 : (S.wr y.1 y.2).2.writes ≤ S.writes + 1 := h1.1
      have e2 : (S.wr y.1 y.2).2.n = S.n := h1.2
      rw [List.length_cons]
      exact ⟨by omega, h2.2.trans e2⟩
    · rw [thenS_no h, List.length_cons]
      exact ⟨by have : (S.wr y.1 y.2).2.writes ≤ S.writes + 1 := h1.1; omega, h1.2⟩
theorem mark_put (S : DS) {c s : Int} (h : secR c s = true) : putS S [(0, secL c s zpage)] = markS S c s := (markS_sec S h).symm
theorem PLog.store {w : World} {q : Nat} {p : Addr} {seq : Int} (h : PLog w q p seq) (z : Int) : PLog (w.setCell ⟨q, 1, none⟩ (.int .i64 z)) q p z := by
  unfold PLog at *
  simp [World.setCell, Array.getElem?_modify, h]

theorem RImgs.weaken {w : World} {G G' : Nat → Prop} {A : Option Addr} {n : Nat} {l : List (Int × List Int)} (h : RImgs w G A n l) (hG : ∀ k, G' k → G k) : RImgs w G' A n l := h.keep (Nat.le_refl _) (fun k _ hn hg => hn (hG k hg)) (fun _ _ _ => rfl)
theorem RImgs.below {w w' : World} {G : Nat → Prop} {A : Option Addr} {n : Nat} {l : List (Int × List Int)} (h : RImgs w G A n l) (hb : Below w.heap.size w w') : RImgs w' G A n l := h.keep hb.size (fun _ _ h => h) (fun k hk _ => hb.block k hk)

section
variable {D : World → (Nat → Prop) → Addr → DS → Prop} {w : World} {F : Nat → Prop} {p : Addr} {S : DS} {q : Nat} {seq : Int}

/-- Kept over a call that writes to the disk alone. -/
theorem RImgs.touchQ {w1 w2 : World} {F1 F2 : Nat → Prop} {A : Option Addr} {n : Nat} {l : List (Int × List Int)} (h : RImgs w1 (orAt F1 q) A n l) (ht : Touch F1 w1 w2) (hF : ∀ k, F2 k → F1 k ∨ w1.heap.size ≤ k) : RImgs w2 (orAt F2 q) A n l :=
  h.keep ht.size (fun k hk hn hf => by
    rcases hf with a | a
    · rcases hF k a with b | b
      · exact hn (.inl b)
      · omega
    · exact hn (.inr a)) (fun k hk hn => ht.block k hk (fun hf => hn (.inl hf)))

/-- What Commit leaves: the disk, and the log with its seq. -/
def CommittedD (D : World → (Nat → Prop) → Addr → DS → Prop) (w : World) (F : Nat → Prop) (p : Addr) (q : Nat) (r : Int × Int × DS) (w' : World) : Prop :=
  ∃ F', D w' F' p r.2.2 ∧ PLog w' q p r.2.1 ∧ ¬ F' q ∧ Touch (orAt F q) w w' ∧ ∀ k, F' k → F k ∨ w.heap.size ≤ k
theorem CommittedD.of {w' : World} {S' : DS} {e : Int} (hq : PLog w q p seq) (hqF : ¬ F q) (h : WroteD D w F p S' w') : CommittedD D w F p q (e, seq, S') w' := by
  obtain ⟨F', h1, h2, h3⟩ := h
  have hlt := hq.cells.2.2.2
  refine ⟨F', h1, hq.keep (h2.block q hlt hqF), fun hf => ?_, ⟨h2.os, h2.tape, h2.output, h2.size, fun k hk hF => h2.block k hk (fun hg => hF (.inl hg))⟩, h3⟩
  rcases h3 q hf with a | a
  · exact hqF a
  · omega

end

end Go.Proofs.YtkpmfobmlaldfaaDoor

/-
  A pager in memory: its log, and a map from pages to slices of bytes that reads as a rising list; what keeps it. No condition.
-/
namespace Go.Proofs.YtkpmfobmlaldfaaDoor
open Go.RowKit Go.Maps
set_option maxRecDepth 100000
set_option linter.unusedVariables false

theorem nodup_sub : ∀ (l m : List Int), l.Nodup → (∀ x ∈ l, x ∈ m) → l.length ≤ m.length
  | [], m, _, _ => Nat.zero_le _
  | x :: r, m, hn, h => by
    have hn' := List.nodup_cons.1 hn
    have h1 := nodup_sub r (m.erase x) hn'.2 (fun y hy => (List.mem_erase_of_ne (fun e => hn'.1 (by rw [← e]; exact hy))).2 (h y (List.mem_cons_of_mem _ hy)))
    have h2 := List.length_erase_of_mem (h x (List.mem_cons_self ..))
    have h3 : 0 < m.length := List.length_pos_of_mem (h x (List.mem_cons_self ..))
    rw [List.length_cons]
    omega
/-- A map has no more entries than there are numbers at which something stands. -/
theorem IMap.tight {w : World} {b n : Nat} {f : Int → Option Value} (h : IMap w b n f) (ks : List Int) (hk : ∀ i, f i ≠ none → i ∈ ks) : IMap w b ks.length f := by
  obtain ⟨D, hD, hf⟩ := h
  obtain ⟨es, rfl, hne, hkey⟩ := hD.entries int_key
  have hint : ∀ p ∈ es, ∃ i : Int, p.1 = .int .i64 i := by
    obtain ⟨es', c, hb, Ft, hs, he⟩ := hD
    intro p hp
    injection he with he
    rw [he] at hp
    obtain ⟨x, hx, rfl⟩ := List.mem_map.1 (mem_sorted.1 hp)
    obtain ⟨y, hy⟩ := Ft.reads x hx
    rw [WideElems.rg_of hy]
    have h3 : keyOf Tryd.prog 3 x.key = some y.1 := WideElems.rd_key hy
    revert h3
    generalize y.1 = kl
    intro h3
    generalize x.key = key at h3
    cases key <;> simp [keyOf, Tryd.underlying3, mapKey] at h3
    obtain ⟨⟨rfl, _⟩, rfl⟩ := h3
    exact ⟨_, rfl⟩
  have hlen : es.length ≤ ks.length := by
    have hsub : ∀ i ∈ es.map (fun p => match p.1 with | .int _ i => i | _ => 0), i ∈ ks := by
      intro i hi
      obtain ⟨p, hp, rfl⟩ := List.mem_map.1 hi
      obtain ⟨i, e⟩ := hint p hp
      rw [e]
      refine hk i (fun e0 => ?_)
      have := (hf i).1
      rw [e0, Maps.has_eq] at this
      have h2 : es.any (fun p => p.1.sameKey (.int .i64 i)) = true := List.any_eq_true.2 ⟨p, hp, by rw [e]; simp [Lit.sameKey]⟩
      rw [h2] at this
      cases this
    have hnd : (es.map (fun p => match p.1 with | .int _ i => i | _ => 0)).Nodup := by
      rw [List.nodup_iff_pairwise_ne, List.pairwise_map]
      refine hne.imp_of_mem fun {p q} hp hq hpq e => hpq ?_
      obtain ⟨i, hi⟩ := hint p hp
      obtain ⟨j, hj⟩ := hint q hq
      rw [hi, hj] at e ⊢
      have : i = j := e
      rw [this]
    have := nodup_sub _ ks hnd hsub
    simpa using this
  obtain ⟨es', c, hb, Ft, hs, he⟩ := hD
  refine ⟨_, ⟨es', c, hb, Ft, ?_, he⟩, hf⟩
  injection he with he
  have : es.length = es'.size := by rw [he, length_sorted]; simp
  omega

/-- What was set, as the map at b holds it: slices apart from the blocks X, in the blocks O. -/
def PgSet (w : World) (X O : Nat → Prop) (b : Nat) (L : List (Int × List Int)) : Prop :=
  ∃ f, IMap w b L.length f ∧ ∀ i, (atL L i = none → f i = none) ∧ ∀ l, atL L i = some l → ∃ g c, f i = some (.slice (some ⟨g, 0, none⟩) 240 c) ∧ 240 ≤ c ∧ RB w w.heap.size (some ⟨g, 0, none⟩) 240 l ∧ ¬ X g ∧ O g
/-- A pager at r: of the log at q of the disk at p, its map at b; O: all blocks that it leans on. -/
structure PgAt (D : World → (Nat → Prop) → Addr → DS → Prop) (w : World) (F O : Nat → Prop) (p : Addr) (S : DS) (q : Nat) (seq : Int) (r b : Nat) (L : List (Int × List Int)) : Prop where
  d : D w F p S
  log : PLog w q p seq
  me : w.heap[r]? = some (.cells #[.pointer (some ⟨q, 0, none⟩), .map (some b)] 91 (0, 0))
  qF : ¬ F q
  rF : ¬ F r
  bF : ¬ F b
  rq : r ≠ q
  own : ∀ k, F k ∨ k = q ∨ k = r ∨ k = b → O k
  lt : ∀ k, O k → k < w.heap.size
  set : PgSet w (fun k => F k ∨ k = q ∨ k = r ∨ k = b) O b L
  up : Rising L
  all : AllSet S L

section
variable {D : World → (Nat → Prop) → Addr → DS → Prop} {w w' : World} {F O : Nat → Prop} {p : Addr} {S : DS} {q r b : Nat} {seq : Int} {L : List (Int × List Int)} {X : Nat → Prop}

theorem PgSet.keep (h : PgSet w X O b L) {X' O' : Nat → Prop} (hs : w.heap.size ≤ w'.heap.size) (hb : w'.heap[b]? = w.heap[b]?) (hk : ∀ g, g < w.heap.size → O g → ¬ X g → w'.heap[g]? = w.heap[g]?) (hX : ∀ g, g < w.heap.size → O g → ¬ X g → ¬ X' g) (hO : ∀ g, O g → O' g) : PgSet w' X' O' b L := by
  obtain ⟨f, h1, h2⟩ := h
  refine ⟨f, h1.of_block hb, fun i => ⟨(h2 i).1, fun l hl => ?_⟩⟩
  obtain ⟨g, c, e1, e2, e3, e4, e5⟩ := (h2 i).2 l hl
  have hg : g < w.heap.size := by obtain ⟨bb, _, e, hbb, _⟩ := e3.at_ (by decide); cases e; exact hbb
  exact ⟨g, c, e1, e2, e3.there (by decide) (hk g hg e5 e4) hs, hX g hg e5 e4, hO g e5⟩
theorem PgAt.cells (h : PgAt D w F O p S q seq r b L) : w.cell? ⟨r, 0, none⟩ = some (.pointer (some ⟨q, 0, none⟩)) ∧ w.cell? ⟨r, 1, none⟩ = some (.map (some b)) ∧ r < w.heap.size := by
  refine ⟨?_, ?_, (Array.getElem?_eq_some_iff.1 h.me).1⟩
  · rw [cell_of_row w r 0 _ _ (0, 0) h.me]; rfl
  · rw [cell_of_row w r 1 _ _ (0, 0) h.me]; rfl
/-- While all its blocks stand, it is what it is. -/
theorem PgAt.keep (api : DiskApi D) (h : PgAt D w F O p S q seq r b L) (hs : w.heap.size ≤ w'.heap.size) (hk : ∀ k, O k → w'.heap[k]? = w.heap[k]?) : PgAt D w' F O p S q seq r b L :=
  ⟨api.keep w w' F p S h.d (fun k hf => hk k (h.own k (.inl hf))), h.log.keep (hk q (h.own q (.inr (.inl rfl)))), (hk r (h.own r (.inr (.inr (.inl rfl))))).trans h.me, h.qF, h.rF, h.bF, h.rq, h.own, fun k hk' => Nat.lt_of_lt_of_le (h.lt k hk') hs,
    h.set.keep hs (hk b (h.own b (.inr (.inr (.inr rfl))))) (fun g _ ho _ => hk g ho) (fun g _ _ hx => hx) (fun g ho => ho), h.up, h.all⟩
theorem PgAt.below (api : DiskApi D) (h : PgAt D w F O p S q seq r b L) (hb : Below w.heap.size w w') : PgAt D w' F O p S q seq r b L := h.keep api hb.size fun k hk => hb.block k (h.lt k hk)
/-- The map's block alone was written, to hold L'. -/
theorem PgAt.turn (api : DiskApi D) (h : PgAt D w F O p S q seq r b L) {O' : Nat → Prop} {L' : List (Int × List Int)} (hg : w.grownBy w' (some b)) (hO : ∀ k, O k → O' k) (hlt : ∀ k, O' k → k < w'.heap.size) (hset : PgSet w' (fun k => F k ∨ k = q ∨ k = r ∨ k = b) O' b L') (hup : Rising L') (hall : AllSet S L') : PgAt D w' F O' p S q seq r b L' := by
  have hbm : b ≠ q ∧ b ≠ r := by
    obtain ⟨f, h1, _⟩ := h.set
    obtain ⟨es, c, e⟩ := h1.block
    refine ⟨fun e' => ?_, fun e' => ?_⟩
    · have := h.log; unfold PLog at this; rw [← e', e] at this; cases this
    · have := h.me; rw [← e', e] at this; cases this
  have hB : ∀ k, k < w.heap.size → k ≠ b → w'.heap[k]? = w.heap[k]? := fun k hk hne => hg.block k hk (fun e => hne (Option.some.inj e))
  exact ⟨api.keep w w' F p S h.d (fun k hf => hB k (api.lt w F p S h.d k hf) (fun e => h.bF (e ▸ hf))), h.log.keep (hB q h.log.cells.2.2.2 (fun e => hbm.1 e.symm)), (hB r h.cells.2.2 (fun e => hbm.2 e.symm)).trans h.me, h.qF, h.rF, h.bF, h.rq, fun k hk => hO k (h.own k hk), hlt, hset, hup, hall⟩
end

end Go.Proofs.YtkpmfobmlaldfaaDoor

/-
  Nothing here: this seat's roots reach no sorted keys.
-/
namespace Go.Proofs.YtkpmfobmlaldfaaDoor
end Go.Proofs.YtkpmfobmlaldfaaDoor

/-
  Plain: a log of a disk on which nothing fails: Format, Open and Commit succeed, how many sectors they write, and what the pages are then. No program.
-/
namespace Go.Proofs.YtkpmfobmlaldfaaDoor
open Go.RowKit
set_option maxRecDepth 100000
set_option linter.unusedVariables false

theorem pageIn_len (n : Int) (f : Nat → List Int) (p : Int) : (pageIn n f p).length = 240 := by
  unfold pageIn
  by_cases h : (unpackR (f (p + 1 + pagesOf n).toNat)).2.2.2 ≠ 0 ∨ (unpackR (f (p + 1 + pagesOf n).toNat)).1 ≠ p
  · rw [if_pos h]; exact zpage_ok.1
  · rw [if_neg h]
    have h0 : (unpackR (f (p + 1 + pagesOf n).toNat)).2.2.2 = 0 := Classical.not_not.1 (fun e => h (.inl e))
    generalize f (p + 1 + pagesOf n).toNat = l at h0 ⊢
    have hl := (unpack_page h0).2.2
    unfold unpackR at h0 ⊢
    by_cases hs : isSec l
    · rw [if_pos hs]
      show (l.drop 16).length = 240
      rw [List.length_drop, hl]
    · rw [if_neg hs] at h0; cases h0

section
variable {S : DS} {f g : Nat → List Int} {n seq : Int}

theorem Free.write_count (h : Free S) {i : Int} {l : List Int} (hi : 0 ≤ i ∧ i < S.n) (hl : l.length = 256) : (S.write i l).writes = S.writes + 1 := by
  obtain ⟨e, _⟩ := h.write hi hl
  rw [(write_done e).2]
  rfl
theorem Free.put (l : List (Int × List Int)) : ∀ {S : DS}, Free S → (∀ x ∈ l, (0 ≤ x.1 ∧ x.1 < S.n) ∧ x.2.length = 256) → (putS S l).1 = 0 ∧ Free (putS S l).2 ∧ (putS S l).2.writes = S.writes + l.length := by
  induction l with
  | nil =>
    intro S h _
    obtain ⟨h1, h2⟩ := h.flush
    refine ⟨h1, h2, ?_⟩
    show S.flush.writes = _
    rw [(flush_done h1).2]; rfl
  | cons x r ih =>
    intro S h hv
    obtain ⟨v1, v2⟩ := hv _ (List.mem_cons_self ..)
    obtain ⟨h1, h2, h3⟩ := h.write v1 v2
    have h4 := h.write_count v1 v2
    rw [putS_cons, thenS_ok (show (S.wr x.1 x.2).1 = 0 from h1)]
    obtain ⟨q1, q2, q3⟩ := ih (S := (S.wr x.1 x.2).2) h2 (fun y hy => by
      have e : (S.wr x.1 x.2).2.n = S.n := h3
      rw [e]
      exact hv y (List.mem_cons_of_mem _ hy))
    refine ⟨q1, q2, ?_⟩
    rw [q3, List.length_cons, show (S.wr x.1 x.2).2.writes = S.writes + 1 from h4]
    omega

theorem free_mark (h : Free S) (hn : 3 ≤ S.n) {c s : Int} (hs : secR c s = true) : (markS S c s).1 = 0 ∧ Free (markS S c s).2 ∧ (markS S c s).2.n = S.n ∧ (markS S c s).2.writes = S.writes + 1 ∧ Rests (markS S c s).2 (putF S.last 0 (secL c s zpage)) := by
  have hl : (secL c s zpage).length = 256 := by rw [secL_length, zpage_ok.1]
  rw [markS_sec S hs]
  obtain ⟨h1, h2, h3⟩ := h.write (i := 0) (l := secL c s zpage) (by omega) hl
  have h4 := h.write_count (i := 0) (l := secL c s zpage) (by omega) hl
  rw [thenS_ok (show (S.wr 0 (secL c s zpage)).1 = 0 from h1)]
  have hw := (write_done h1).2
  obtain ⟨f1, f2⟩ := h2.flush
  have hf := flush_done f1
  show (S.write 0 (secL c s zpage)).flushE = 0 ∧ Free (S.write 0 (secL c s zpage)).flush ∧ (S.write 0 (secL c s zpage)).flush.n = S.n ∧ (S.write 0 (secL c s zpage)).flush.writes = S.writes + 1 ∧ Rests (S.write 0 (secL c s zpage)).flush (putF S.last 0 (secL c s zpage))
  refine ⟨f1, f2, (P_flush _).trans h3, ?_, ?_⟩
  · rw [hf.2]; exact h4
  · rw [hf.2]
    have e : (S.write 0 (secL c s zpage)).last = putF S.last 0 (secL c s zpage) := by rw [hw]; rfl
    exact ⟨e, e, hf.1⟩

theorem free_commit {l : List (Int × List Int)} (hn : n = S.n) (hn3 : 3 ≤ n) (hI : Imgs n seq l) (hne : l ≠ []) (h : Free S) (hR : Rests S f) :
    (commitS S seq l).1 = 0 ∧ (commitS S seq l).2.1 = seq + 1 ∧ Free (commitS S seq l).2.2 ∧ (commitS S seq l).2.2.n = S.n ∧ (commitS S seq l).2.2.writes = S.writes + (2 * l.length + 1) ∧ Rests (commitS S seq l).2.2 (putH n (marked f seq l) (packs (seq + 1) l)) := by
  obtain ⟨g1, g2⟩ := commit_leaves hn hI hne hR
  have hP : S.P = pagesOf n := by unfold DS.P; rw [hn]
  have hpn := (pagesOf_nn n).2.1 hn3
  have h4 := (pagesOf_nn n).2.2
  have hright : rightS S l := ⟨fun x hx => by rw [hP]; exact hI.page x hx, hI.once⟩
  have hfew := hI.few
  have h0 := hI.seq0
  have h1 := hI.seq1
  have he : rightE S l = 0 := by unfold rightE; rw [if_neg (by rw [hP]; omega), if_pos hright]
  have hsec : secR l.length (seq + 1) = true := decide_eq_true ⟨by omega, by omega, by omega, by omega⟩
  rw [commitS_is he hne] at g1 g2 ⊢
  have hsl : ∀ (l' : List (Int × List Int)) (i : Nat), ((i : Int) + l'.length + 1 ≤ S.n) → (∀ x ∈ l', x.2.length = 256) → ∀ x ∈ atSlots i l', (0 ≤ x.1 ∧ x.1 < S.n) ∧ x.2.length = 256 := by
    intro l'
    induction l' with
    | nil => intro i _ _ x hx; cases hx
    | cons y r ih =>
      intro i hi hy x hx
      simp only [List.length_cons] at hi
      rcases List.mem_cons.1 hx with rfl | hx
      · exact ⟨⟨by show 0 ≤ (i : Int) + 1; omega, by show (i : Int) + 1 < S.n; omega⟩, hy y (List.mem_cons_self ..)⟩
      · exact ih (i + 1) (by omega) (fun z hz => hy z (List.mem_cons_of_mem _ hz)) x hx
  obtain ⟨p1, p2, p3⟩ := h.put (atSlots 0 (packs (seq + 1) l)) (hsl _ 0 (by rw [packs_length]; omega) (fun x hx => (hI.mem hx).2))
  have p4 := (putS_more (atSlots 0 (packs (seq + 1) l)) S).2
  rw [atSlots_length, packs_length] at p3
  have ec : commitP S seq l = commitM (putS S (atSlots 0 (packs (seq + 1) l))).2 seq l := if_neg (fun e => e p1)
  obtain ⟨m1, m2, m3, m4, _⟩ := free_mark p2 (by rw [p4]; omega) hsec
  have em : commitM (putS S (atSlots 0 (packs (seq + 1) l))).2 seq l = _ := if_neg (fun e => e m1)
  have hPM : (markS (putS S (atSlots 0 (packs (seq + 1) l))).2 l.length (seq + 1)).2.P = pagesOf n := by unfold DS.P; rw [m3, p4, hn]
  obtain ⟨q1, q2, q3⟩ := m2.put (atHomes (pagesOf n) (packs (seq + 1) l)) (fun x hx => by
    obtain ⟨z, hz, rfl⟩ := List.mem_map.1 hx
    obtain ⟨⟨a, b⟩, c⟩ := hI.mem hz
    refine ⟨⟨by show 0 ≤ z.1 + 1 + pagesOf n; omega, ?_⟩, c⟩
    show z.1 + 1 + pagesOf n < _
    rw [m3, p4]; omega)
  have hph := putS_homes (packs (seq + 1) l) (markS (putS S (atSlots 0 (packs (seq + 1) l))).2 l.length (seq + 1)).2
  rw [hPM] at hph
  rw [hph] at q1 q2 q3
  have eall : commitP S seq l = ((homesS (markS (putS S (atSlots 0 (packs (seq + 1) l))).2 l.length (seq + 1)).2 (packs (seq + 1) l)).1, seq + 1, (homesS (markS (putS S (atSlots 0 (packs (seq + 1) l))).2 l.length (seq + 1)).2 (packs (seq + 1) l)).2) := ec.trans em
  rw [eall] at g1 g2 ⊢
  refine ⟨q1, rfl, q2, g1, ?_, ?_⟩
  · show (homesS _ _).2.writes = _
    rw [q3, m4, p3]
    simp [atHomes, packs_length]
    omega
  · rcases g2 with ⟨a, _⟩ | ⟨_, b⟩
    · exact absurd q1 a
    · exact b q1

theorem putH_at (l : List (Int × List Int)) : ∀ {f : Nat → List Int}, (l.map (·.1)).Nodup → (∀ x ∈ l, 0 ≤ x.1) → 0 ≤ pagesOf n → ∀ x ∈ l, putH n f l (x.1 + 1 + pagesOf n).toNat = x.2 := by
  induction l with
  | nil => intro f _ _ _ x hx; cases hx
  | cons y r ih =>
    intro f hnd h0 hn x hx
    rw [List.map_cons, List.nodup_cons] at hnd
    show putH n (putF f _ y.2) r _ = x.2
    rcases List.mem_cons.1 hx with rfl | hx
    · rw [putH_far r _ (fun z hz e => by
        have a := h0 x (List.mem_cons_self ..)
        have b := h0 z (List.mem_cons_of_mem _ hz)
        exact hnd.1 (List.mem_map.2 ⟨z, hz, by omega⟩)), putF, if_pos rfl]
    · exact ih hnd.2 (fun z hz => h0 z (List.mem_cons_of_mem _ hz)) hn x hx

/-- The pages behind a commit. -/
theorem pages_marked {l : List (Int × List Int)} (hI : Imgs n seq l) : (∀ x ∈ l, pageIn n (putH n (marked f seq l) (packs (seq + 1) l)) x.1 = x.2) ∧ ∀ p, 0 ≤ p → p < pagesOf n → (∀ x ∈ l, x.1 ≠ p) → pageIn n (putH n (marked f seq l) (packs (seq + 1) l)) p = pageIn n f p := by
  have hnn := (pagesOf_nn n).1
  have hfst : (packs (seq + 1) l).map (·.1) = l.map (·.1) := by unfold packs; rw [List.map_map]; rfl
  refine ⟨fun x hx => ?_, fun p h0 h1 hno => ?_⟩
  · obtain ⟨e1, e2, e3⟩ := hI.pack hx
    have hm : (x.1, (packR x.1 (seq + 1) x.2).1) ∈ packs (seq + 1) l := List.mem_map.2 ⟨x, hx, rfl⟩
    have := putH_at (n := n) (packs (seq + 1) l) (f := marked f seq l) (by rw [hfst]; exact hI.once) (fun z hz => (hI.mem hz).1.1) hnn _ hm
    unfold pageIn
    rw [show putH n (marked f seq l) (packs (seq + 1) l) (x.1 + 1 + pagesOf n).toNat = secL x.1 (seq + 1) x.2 from this.trans e1, e2, if_neg (by simp)]
  · have e : putH n (marked f seq l) (packs (seq + 1) l) (p + 1 + pagesOf n).toNat = f (p + 1 + pagesOf n).toNat := by
      rw [putH_far _ _ (fun z hz e => by
        have a := (hI.mem hz).1.1
        obtain ⟨x, hx, e2⟩ := List.mem_map.1 hz
        have : x.1 = z.1 := by rw [← e2]
        exact hno x hx (by omega))]
      exact (view_marked hI).2.2 _ (by omega)
    unfold pageIn
    rw [e]
end

/-- A log that was just made. -/
def fresh1 : Nat → List Int := putF (fun _ => nought) 0 (secL 0 1 zpage)
theorem fresh1_mark : unpackR (fresh1 0) = (0, 1, zpage, 0) := by
  unfold fresh1 putF
  rw [if_pos rfl]
  exact unpack_pack zpage_ok.2 (by decide) zpage_ok.1
theorem fresh1_opened (n : Int) : listed n fresh1 = some [] ∧ opened n fresh1 = fresh1 := by
  have hnn := (pagesOf_nn n).1
  have e : listed n fresh1 = some [] := by
    unfold listed
    rw [fresh1_mark]
    exact slotsOf_of hnn rfl
  exact ⟨e, opened_some e⟩
theorem fresh_log {m : Nat} (h : 3 ≤ m ∧ m ≤ 65536) : (markS (DS.new m) 0 1).1 = 0 ∧ (openS (markS (DS.new m) 0 1).2).1 = 0 ∧ (openS (markS (DS.new m) 0 1).2).2.1 = 1 ∧ Free (openS (markS (DS.new m) 0 1).2).2.2 ∧ (openS (markS (DS.new m) 0 1).2).2.2.n = m ∧ (openS (markS (DS.new m) 0 1).2).2.2.writes = 1 ∧ Rests (openS (markS (DS.new m) 0 1).2).2.2 fresh1 := by
  have hF : Free (DS.new m) := ⟨rfl, rfl⟩
  obtain ⟨h1, h2, h3, h4, h5⟩ := free_mark hF (c := 0) (s := 1) (show 3 ≤ m from h.1) (by decide)
  have h5' : Rests (markS (DS.new m) 0 1).2 fresh1 := h5
  have h3' : (markS (DS.new m) 0 1).2.n = m := h3
  obtain ⟨o1, o2, o3, o4, o5⟩ := open_free (n := (m : Int)) (by rw [h3']) (by omega) h2 h5' (by rw [fresh1_mark])
  rw [fresh1_mark] at o2
  rw [(fresh1_opened _).2] at o3
  refine ⟨h1, o1, o2, o4, o5.trans h3', ?_, o3⟩
  have hw : (markS (DS.new m) 0 1).2.writes = 1 := h4
  generalize hS : (markS (DS.new m) 0 1).2 = S at *
  have hl : S.last = fresh1 := h5'.last
  have e : (openS S).2.2 = (homesS S []).2 := by
    unfold openS
    rw [if_neg (by simp [h2.up]), hl, if_neg (by rw [fresh1_mark]; simp)]
    have hls := (fresh1_opened (m : Int)).1
    unfold listed at hls
    rw [h3', hls]
    simp only []
    rw [if_neg (fun h' => h' (h2.flush.1))]
  rw [e]
  show S.flush.writes = 1
  rw [(flush_done h2.flush.1).2]
  exact hw

end Go.Proofs.YtkpmfobmlaldfaaDoor

/-
  A law's own disk and log, worked on call by call, over any disk that answers as it is to. Conditions: those of the contracts; the table that crc.Step reads holds what the program's text lays in it when the law begins.
-/
namespace Go.Proofs.YtkpmfobmlaldfaaDoor
open Go.RowKit
set_option maxRecDepth 100000
set_option linter.unusedVariables false

/-- In w the law's disk S lies at p in blocks of the law's own, F; what was there when the law began (w0) stands, the table among it. -/
structure LawD (D : World → (Nat → Prop) → Addr → DS → Prop) (w0 w : World) (F : Nat → Prop) (p : Addr) (S : DS) : Prop where
  d : D w F p S
  out : ∀ k, F k → w0.heap.size ≤ k
  bel : Below w0.heap.size w0 w
  tab : Tab w0 ∧ 0 < w0.heap.size
/-- .. and a log of it at q. -/
structure LawL (D : World → (Nat → Prop) → Addr → DS → Prop) (w0 w : World) (F : Nat → Prop) (p : Addr) (S : DS) (q : Nat) (seq : Int) : Prop extends LawD D w0 w F p S where
  log : PLog w q p seq
  qF : ¬ F q
  q0 : w0.heap.size ≤ q

section
variable {D : World → (Nat → Prop) → Addr → DS → Prop} {w0 w w' : World} {F F' : Nat → Prop} {p : Addr} {S S' : DS} {q : Nat} {seq : Int}

theorem LawD.tabF (h : LawD D w0 w F p S) : TabF w F := ⟨h.tab.1.below h.bel h.tab.2, Nat.lt_of_lt_of_le h.tab.2 h.bel.size, fun hf => by have := h.out _ hf; have := h.tab.2; omega⟩
theorem LawD.lt (api : DiskApi D) (h : LawD D w0 w F p S) : ∀ k, F k → k < w.heap.size := api.lt w F p S h.d
theorem LawD.later (api : DiskApi D) (h : LawD D w0 w F p S) (hb : Below w.heap.size w w') : LawD D w0 w' F p S := ⟨api.below h.d hb, h.out, h.bel.trans (hb.mono h.bel.size), h.tab⟩
theorem LawD.next (h : LawD D w0 w F p S) (hd : D w' F' p S') (ht : Touch F w w') (hF : ∀ k, F' k → F k ∨ w.heap.size ≤ k) : LawD D w0 w' F' p S' :=
  ⟨hd, fun k hk => by
    rcases hF k hk with a | a
    · exact h.out k a
    · exact Nat.le_trans h.bel.size a, h.bel.trans (ht.below h.out h.bel.size), h.tab⟩
theorem LawL.later (api : DiskApi D) (h : LawL D w0 w F p S q seq) (hb : Below w.heap.size w w') : LawL D w0 w' F p S q seq := ⟨h.toLawD.later api hb, h.log.below hb, h.qF, h.q0⟩
theorem LawL.next (h : LawL D w0 w F p S q seq) (hd : D w' F' p S') (ht : Touch F w w') (hF : ∀ k, F' k → F k ∨ w.heap.size ≤ k) : LawL D w0 w' F' p S' q seq :=
  ⟨h.toLawD.next hd ht hF, h.log.keep (ht.block q h.log.cells.2.2.2 h.qF), fun hf => by
    rcases hF q hf with a | a
    · exact h.qF a
    · have := h.log.cells.2.2.2; omega, h.q0⟩

theorem law_new (api : DiskApi D) {n : Int} (h1 : 3 ≤ n) (h2 : n ≤ 65536) (ht : Tab w0 ∧ 0 < w0.heap.size) (hb : Below w0.heap.size w0 w) : Calls Tryd.prog 13 #[.int .i64 n] w fun e w' => ∃ (p : Addr) (F : Nat → Prop), e = .returned (.tuple #[.pointer (some p), .int .i64 0]) ∧ LawD D w0 w' F p (DS.new n.toNat) ∧ Below w.heap.size w w' := by
  refine (api.new n w h1 h2).mono ?_
  rintro e w' ⟨p, F, rfl, hd, hb', hF⟩
  exact ⟨p, F, rfl, ⟨hd, fun k hk => Nat.le_trans hb.size (hF k hk), hb.trans (hb'.mono hb.size), ht⟩, hb'⟩
theorem law_format (api : DiskApi D) (h : LawD D w0 w F p S) (hw : S.writes ≤ 9223372036854775800) : Calls Tryd.prog 14 #[.pointer (some p)] w fun e w' => e = .returned (.int .i64 (markS S 0 1).1) ∧ ∃ F', LawD D w0 w' F' p (markS S 0 1).2 ∧ Touch F w w' ∧ ∀ k, F' k → F k ∨ w.heap.size ≤ k := by
  refine (format_any api h.d h.tabF hw).mono ?_
  rintro e w' ⟨rfl, F', d, t, n⟩
  exact ⟨rfl, F', h.next d t n, t, n⟩
theorem law_open (api : DiskApi D) (h : LawD D w0 w F p S) (hw : S.writes ≤ 9223372036854700000) : Calls Tryd.prog 15 #[.pointer (some p)] w fun e w' =>
    ((openS S).1 ≠ 0 ∧ e = .returned (.tuple #[.pointer none, .int .i64 (openS S).1]) ∧ ∃ F', LawD D w0 w' F' p (openS S).2.2 ∧ Touch F w w' ∧ ∀ k, F' k → F k ∨ w.heap.size ≤ k) ∨
    ((openS S).1 = 0 ∧ ∃ q F', e = .returned (.tuple #[.pointer (some ⟨q, 0, none⟩), .int .i64 0]) ∧ w.heap.size ≤ q ∧ LawL D w0 w' F' p (openS S).2.2 q (openS S).2.1 ∧ Touch F w w' ∧ ∀ k, F' k → F k ∨ w.heap.size ≤ k) := by
  refine (open_any api h.d h.tabF hw).mono ?_
  rintro e w' (⟨h1, rfl, F', d, t, n⟩ | ⟨h1, q, F', rfl, hq, hl, hqF, d, t, n⟩)
  · exact .inl ⟨h1, rfl, F', h.next d t n, t, n⟩
  · exact .inr ⟨h1, q, F', rfl, hq, ⟨h.next d t n, hl, hqF, Nat.le_trans h.bel.size hq⟩, t, n⟩
/-- Open where it can't fail. -/
theorem law_open_ok (api : DiskApi D) (h : LawD D w0 w F p S) (hw : S.writes ≤ 9223372036854700000) (h0 : (openS S).1 = 0) : Calls Tryd.prog 15 #[.pointer (some p)] w fun e w' =>
    ∃ q F', e = .returned (.tuple #[.pointer (some ⟨q, 0, none⟩), .int .i64 0]) ∧ w.heap.size ≤ q ∧ LawL D w0 w' F' p (openS S).2.2 q (openS S).2.1 ∧ Touch F w w' ∧ ∀ k, F' k → F k ∨ w.heap.size ≤ k := by
  refine (law_open api h hw).mono ?_
  rintro e w' (⟨h1, _⟩ | ⟨_, h2⟩)
  · exact absurd h0 h1
  · exact h2
/-- Open, whatever it answers. -/
theorem law_open_some (api : DiskApi D) (h : LawD D w0 w F p S) (hw : S.writes ≤ 9223372036854700000) : Calls Tryd.prog 15 #[.pointer (some p)] w fun e w' =>
    ∃ v F', e = .returned (.tuple #[v, .int .i64 (openS S).1]) ∧ LawD D w0 w' F' p (openS S).2.2 ∧ Touch F w w' ∧ ∀ k, F' k → F k ∨ w.heap.size ≤ k := by
  refine (law_open api h hw).mono ?_
  rintro e w' (⟨h1, rfl, F', d, t, n⟩ | ⟨h1, q, F', rfl, _, d, t, n⟩)
  · exact ⟨_, F', rfl, d, t, n⟩
  · exact ⟨_, F', by rw [h1], d.toLawD, t, n⟩
theorem law_load (api : DiskApi D) (h : LawL D w0 w F p S q seq) (pg : Int) (hpg : -9223372036854775808 ≤ pg ∧ pg ≤ 9223372036854775807) : Calls Tryd.prog 48 #[.pointer (some ⟨q, 0, none⟩), .int .i64 pg] w fun e w' => ∃ A n c, e = .returned (.tuple #[.slice A n c, .int .i64 (loadS S pg).2]) ∧ n ≤ c ∧ RB w' w'.heap.size A n (loadS S pg).1 ∧ LawL D w0 w' F p S q seq ∧ Below w.heap.size w w' := by
  refine (load_any api h.d h.log h.tabF pg hpg).mono ?_
  rintro e w' ⟨A, n, c, rfl, hc, hr, hb⟩
  exact ⟨A, n, c, rfl, hc, hr, h.later api hb, hb⟩
theorem law_pages (api : DiskApi D) (h : LawL D w0 w F p S q seq) : Calls Tryd.prog 39 #[.pointer (some ⟨q, 0, none⟩)] w fun e w' => e = .returned (.int .i64 (pagesOf S.n)) ∧ w' = w := pages_same api h.d h.log
/-- The beginning of a law: a disk that was made, formatted and opened. -/
theorem law_fresh_open {m : Nat} (hm : 3 ≤ m ∧ m ≤ 65536) : (markS (DS.new m) 0 1).2.writes ≤ 9223372036854700000 := by
  have hF : Free (DS.new m) := ⟨rfl, rfl⟩
  obtain ⟨_, _, _, h4, _⟩ := free_mark hF (c := 0) (s := 1) (show 3 ≤ m from hm.1) (by decide)
  rw [h4]
  show 0 + 1 ≤ 9223372036854700000
  omega
end

end Go.Proofs.YtkpmfobmlaldfaaDoor

/-
  Contracts of the program's pager, but Commit: made, Pages, Changed, Get, Set, Abort, New. Conditions: the table that crc.Step reads holds what the program's text lays in it (Get); numbers are ints.
-/
namespace Go.Proofs.YtkpmfobmlaldfaaDoor
open Go.RowKit
set_option maxRecDepth 100000
set_option linter.unusedVariables false

section
variable {D : World → (Nat → Prop) → Addr → DS → Prop} {w w' : World} {F O : Nat → Prop} {p : Addr} {S : DS} {q r b : Nat} {seq : Int} {L : List (Int × List Int)}

set_option maxHeartbeats 400000 in
theorem pmade_any (h : PgAt D w F O p S q seq r b L) : Calls Tryd.prog 46 #[.pointer (some ⟨r, 0, none⟩)] w fun e w' => e = .returned (.bool true) ∧ w = w' := by
  obtain ⟨l0, l1, l2⟩ := h.cells
  clear h
  go_enter Tryd.func46, Tryd.ntmps46
  go_wp2
  go_ret
  exact ⟨rfl, rfl⟩

set_option maxHeartbeats 400000 in
theorem ppages_any (api : DiskApi D) (h : PgAt D w F O p S q seq r b L) : Calls Tryd.prog 49 #[.pointer (some ⟨r, 0, none⟩)] w fun e w' => e = .returned (.int .i64 (pagesOf S.n)) ∧ w' = w := by
  obtain ⟨l0, l1, l2⟩ := h.cells
  have HM := Lib.hid (pmade_any h)
  have HP := Lib.hid (pages_same api h.d h.log)
  clear h
  go_enter Tryd.func49, Tryd.ntmps49
  go_wp2_with fail
  refine HM.out.mono ?_
  rintro e w1 ⟨rfl, rfl⟩
  go_wp2_with fail
  refine HP.out.mono ?_
  rintro e w1 ⟨rfl, hw⟩
  have hw := hw.symm
  subst hw
  go_wp2
  go_ret
  exact ⟨rfl, rfl⟩

theorem PgSet.sup {X : Nat → Prop} (h : PgSet w X O b L) : ∃ f, IMap w b L.length f ∧ ∀ i, f i ≠ none ↔ atL L i ≠ none := by
  obtain ⟨f, h1, h2⟩ := h
  refine ⟨f, h1, fun i => ⟨fun hf e => hf ((h2 i).1 e), fun ha e => ?_⟩⟩
  cases hl : atL L i with
  | none => exact ha hl
  | some l =>
    obtain ⟨g, c, e1, _⟩ := (h2 i).2 l hl
    rw [e1] at e
    cases e
theorem atL_ne {i : Int} (h : Rising L) : atL L i ≠ none ↔ i ∈ L.map (·.1) := by
  constructor
  · intro hne
    cases hl : atL L i with
    | none => exact absurd hl hne
    | some l => exact List.mem_map.2 ⟨_, atL_mem hl, rfl⟩
  · intro hm e
    obtain ⟨x, hx, rfl⟩ := List.mem_map.1 hm
    rw [h.at_ (i := x.1) (l := x.2) hx] at e
    cases e

set_option maxHeartbeats 800000 in
theorem pget_any (api : DiskApi D) (h : PgAt D w F O p S q seq r b L) (ht : TabF w F) (i : Int) (hi : -9223372036854775808 ≤ i ∧ i ≤ 9223372036854775807) : Calls Tryd.prog 24 #[.pointer (some ⟨r, 0, none⟩), .int .i64 i] w fun e w' => ∃ A n c, e = .returned (.tuple #[.slice A n c, .int .i64 (getPg S L i).2]) ∧ n ≤ c ∧ RB w' w'.heap.size A n (getPg S L i).1 ∧ Below w.heap.size w w' := by
  obtain ⟨l0, l1, l2⟩ := h.cells
  have HM := Lib.hid (pmade_any h)
  obtain ⟨f, hf, hset⟩ := h.set
  have HLD := Lib.hid (load_any api h.d h.log ht i hi)
  have q1 := hf.look Tryd.underlying77 (zero_slice w) hi
  cases ha : atL L i with
  | none =>
    have hg : getPg S L i = loadS S i := by unfold getPg; rw [ha]
    rw [(hset i).1 ha] at q1
    simp only [Option.getD_none, Option.isSome_none] at q1
    rw [hg]
    clear hg ha hset hf h ht
    go_enter Tryd.func24, Tryd.ntmps24
    go_wp2_with fail
    refine HM.out.mono ?_
    rintro e w1 ⟨rfl, rfl⟩
    go_wp2_with fail
    refine HLD.out.mono ?_
    rintro e w1 ⟨A, n, c, rfl, hc, hr, hb⟩
    have HE := Lib.hid (And.intro hr hb)
    clear hr hb
    go_wp2
    go_ret2
    exact ⟨_, _, _, rfl, hc, HE.out.1, HE.out.2⟩
  | some l =>
    have hg : getPg S L i = (l, 0) := by unfold getPg; rw [ha]
    obtain ⟨g, c, e1, hc, hr, _⟩ := (hset i).2 l ha
    rw [e1] at q1
    simp only [Option.getD_some, Option.isSome_some] at q1
    have HCL := Lib.hid (SClone_any c hr (Nat.le_refl _) (by decide))
    rw [hg]
    clear hg ha hset hf h ht hr e1
    go_enter Tryd.func24, Tryd.ntmps24
    go_wp2_with fail
    refine HM.out.mono ?_
    rintro e w1 ⟨rfl, rfl⟩
    go_wp2_with fail
    refine HCL.out.mono ?_
    rintro e w1 ⟨A, c1, rfl, hc1, hr, hb⟩
    have HE := Lib.hid (And.intro hr hb)
    clear hr hb
    go_wp2
    go_ret2
    exact ⟨_, _, _, rfl, hc1, HE.out.1, HE.out.2⟩

/-- The map was emptied. -/
theorem PgAt.empty (api : DiskApi D) (h : PgAt D w F O p S q seq r b L) (hm : IMap w' b 0 (fun _ => none)) (hg : w.grownBy w' (some b)) : PgAt D w' F O p S q seq r b [] :=
  h.turn api hg (fun k hk => hk) (fun k hk => Nat.lt_of_lt_of_le (h.lt k hk) hg.size) ⟨_, hm, fun i => ⟨fun _ => rfl, fun l hl => by cases hl⟩⟩ List.Pairwise.nil (fun x hx => by cases hx)
theorem touch_grown {X : Nat → Prop} (hg : w.grownBy w' (some b)) (hb : X b) : Touch X w w' := ⟨hg.os, hg.tape, hg.output, hg.size, fun k hk hn => hg.block k hk (fun e => hn (by injection e with e; rw [e]; exact hb))⟩

end

end Go.Proofs.YtkpmfobmlaldfaaDoor

/-
  Unpack of a sector, Load of a log and Get of a pager once more: the bytes that they answer are new ones. Conditions: the table that crc.Step reads holds what the program's text lays in it; numbers are ints.
-/
namespace Go.Proofs.YtkpmfobmlaldfaaDoor
open Go.RowKit
set_option maxRecDepth 100000
set_option linter.unusedVariables false

/-- New bytes, from block base on. -/
def Mine (w' : World) (base : Nat) (A : Option Addr) (n c : Nat) (l : List Int) : Prop := w'.ownsRow base 5 1 (.slice A n c) n (l.map (Value.int .u8)) ∧ AllBytes l
section
variable {w w' : World} {base base' n c : Nat} {A : Option Addr} {l : List Int}
theorem Mine.rb (h : Mine w base A n c l) : RB w w.heap.size A n l := RB.of_own h.1 h.2
theorem Mine.nil_ (w : World) (base : Nat) : Mine w base none 0 0 [] := ⟨⟨rfl, .inl ⟨rfl, rfl⟩⟩, AllBytes.nil⟩
theorem Mine.base_le (h : Mine w base A n c l) (hb : base' ≤ base) : Mine w base' A n c l := ⟨own_base_le h.1 hb, h.2⟩
theorem Mine.made {g : Nat} (h : w.ownsRow base 5 1 (.slice (some ⟨g, 0, none⟩) n n) n (madeCells (Value.int .u8 0).cells (n * 1)).toList) : Mine w base (some ⟨g, 0, none⟩) n n (zeros n) := by
  refine ⟨?_, zeros_bytes n⟩
  rw [show (Value.int .u8 0).cells = #[Value.int .u8 0] from rfl, toList_madeCells_one, Nat.mul_one] at h
  rw [zeros, List.map_replicate]
  exact h
end
def UnpackOwn : Prop := ∀ (A : Option Addr) (n c B : Nat) (l : List Int) (w : World), RB w B A n l → B ≤ w.heap.size → n ≤ c → n ≤ 140737488355000 → Tab w → 0 < w.heap.size →
  Calls Tryd.prog 37 #[.slice A n c] w fun e w' => ∃ A' n' c', e = .returned (.tuple #[.int .i64 (unpackR l).1, .int .i64 (unpackR l).2.1, .slice A' n' c', .int .i64 (unpackR l).2.2.2]) ∧ n' ≤ c' ∧ Mine w' w.heap.size A' n' c' (unpackR l).2.2.1 ∧ Below w.heap.size w w'

set_option maxHeartbeats 8000000 in
theorem Unpack_256o (A : Option Addr) (c B : Nat) (l : List Int) (w : World) (hr : RB w B A 256 l) (hB : B ≤ w.heap.size) (hc : 256 ≤ c) (ht : Tab w) (hg : 0 < w.heap.size) :
    Calls Tryd.prog 37 #[.slice A 256 c] w fun e w' => ∃ A' n' c', e = .returned (.tuple #[.int .i64 (unpackR l).1, .int .i64 (unpackR l).2.1, .slice A' n' c', .int .i64 (unpackR l).2.2.2]) ∧ n' ≤ c' ∧ Mine w' w.heap.size A' n' c' (unpackR l).2.2.1 ∧ Below w.heap.size w w' := by
  have hl := hr.len
  obtain ⟨bd, hd⟩ : ∃ bd, bd = decide (l.take 4 = putB (sumOf (l.drop 4) : Int) 4) := ⟨_, rfl⟩
  have HD := Lib.hid hd
  clear hd
  obtain ⟨b, off, rfl, hb, hcell⟩ := hr.at_ (by omega)
  have hr0 : RB w B (some ⟨b, off, none⟩) 4 (l.take 4) := ⟨by simp; omega, hr.bytes.take 4, fun _ => ⟨b, off, rfl, hb, fun j hj => by rw [hcell j (by omega), List.getElem?_take, if_pos hj]⟩⟩
  have hr4 : RB w B (some ⟨b, off + 4, none⟩) 252 (l.drop 4) := hr.cut hcell 4 (by omega) hb
  have ht1 : Tab w.drew := ht
  have hr0d : RB w.drew B (some ⟨b, off, none⟩) 4 (l.take 4) := hr0.drew
  have hr4d : RB w.drew B (some ⟨b, off + 4, none⟩) 252 (l.drop 4) := hr4.drew
  have hBd : B ≤ w.drew.heap.size := hB
  have hBel := Lib.hid ((Below.refl w.heap.size w).drew)
  have hr16 : RB w B (some ⟨b, off + 16, none⟩) 240 (l.drop 16) := hr.cut hcell 16 (by omega) hb
  have HR := Lib.hid hr
  have HR16 := Lib.hid hr16
  have HST := Lib.hid (sum_stands hr.bytes hl)
  clear hcell hr0 hr4 hr ht hr16
  go_enter Tryd.func37, Tryd.ntmps37
  go_wp2_with fail
  go_cut [21] from 10 (fun c wx => c = .bool (!bd) ∧ Below w.heap.size w wx)
  case first =>
    have hc4 : ¬ (c = 4) := by omega
    go_region_with
      (first
        | (go_at_call 60; refine (sumOf_sl _ _ _ _ _ _ hr4d (by decide) ht1).mono ?_; rintro e w1 ⟨A1, c1, rfl, hr1, hb1⟩; have hr01 := hr0d.below (hb1.mono hBd); have hB1 := Nat.le_trans hBd hb1.size)
        | (go_at_call 59; refine (SEqual_any _ _ hr01 hr1 (by decide) (by decide) hB1 (Nat.le_refl _)).mono ?_; rw [← HD.out]; rintro e w2 ⟨rfl, hb2⟩; have hb02 := Lib.hid (hBel.out.trans (hb1.trans (hb2.mono hb1.size))); clear hb1 hb2 hr01 hr1))
    all_goals (go_wp2; go_meet; (case rel => exact ⟨rfl, hb02.out⟩))
  case rest =>
    obtain ⟨rfl, hbw⟩ := hcut
    have hrc := HR.out.below (hbw.mono hB)
    have hr16c := HR16.out.below (hbw.mono hB)
    have hBc := Nat.le_trans hB hbw.size
    have HBW := Lib.hid hbw
    clear hr0d hr4d ht1 hBd hBel hbw HR16
    cases bd
    · have hne : unpackR l = (0, 0, [], 4) := by
        unfold unpackR
        rw [if_neg]
        rintro ⟨_, h, _⟩
        exact absurd (HST.out.2 h) (of_decide_eq_false HD.out.symm)
      have HN := Lib.hid hne
      clear hne hrc hr16c
      go_wp2
      exact bodyPost_ret (v := .tuple #[.int .i64 0, .int .i64 0, .slice none 0 0, .int .i64 4]) (by simp [results, Tryd.results37, go_sem]) rfl (by rw [HN.out]; exact ⟨none, 0, 0, rfl, Nat.le_refl _, Mine.nil_ _ _, HBW.out⟩)
    · have hsum := HST.out.1 (of_decide_eq_true HD.out.symm)
      have G2 := Lib.hid (getR_at (l := l) 4 4 (by decide) (by omega))
      have G3 := Lib.hid (getR_at (l := l) 8 8 (by decide) (by omega))
      obtain ⟨sb, hsb⟩ : ∃ sb, sb = secR (numOf ((l.drop 4).take 4)) (numOf ((l.drop 8).take 8)) := ⟨_, rfl⟩
      have HS := Lib.hid hsb
      have hres : unpackR l = if sb = true then (numOf ((l.drop 4).take 4), numOf ((l.drop 8).take 8), l.drop 16, 0) else (0, 0, [], 4) := by
        unfold unpackR
        by_cases e : sb = true
        · rw [if_pos e, if_pos ⟨hl, hsum, by rw [← hsb]; exact e⟩]
        · rw [if_neg e, if_neg (fun h => e (by rw [hsb]; exact h.2.2))]
      clear hsb hsum HST HD HR
      cases sb
      · have HN := Lib.hid (hres.trans (if_neg (by decide)))
        clear hres
        go_wp2_with fail
        refine (Get_any _ _ _ _ _ 4 4 _ hrc hc (by decide)).mono ?_
        rw [show getR l 4 4 = (numOf ((l.drop 4).take 4), 0) from G2.out]
        rintro e w1 ⟨rfl, rfl⟩
        go_wp2_with fail
        refine (Get_any _ _ _ _ _ 8 8 _ hrc hc (by decide)).mono ?_
        rw [show getR l 8 8 = (numOf ((l.drop 8).take 8), 0) from G3.out]
        rintro e w1 ⟨rfl, rfl⟩
        go_wp2_with fail
        refine (secRight_said _ _ _).mono ?_
        rw [← HS.out]
        rintro e w1 ⟨rfl, rfl⟩
        go_wp2
        exact bodyPost_ret (v := .tuple #[.int .i64 0, .int .i64 0, .slice none 0 0, .int .i64 4]) (by simp [results, Tryd.results37, go_sem]) rfl (by rw [HN.out]; exact ⟨none, 0, 0, rfl, Nat.le_refl _, Mine.nil_ _ _, HBW.out⟩)
      · have HN := Lib.hid (hres.trans (if_pos rfl))
        clear hres
        go_wp2_with fail
        refine (Get_any _ _ _ _ _ 4 4 _ hrc hc (by decide)).mono ?_
        rw [show getR l 4 4 = (numOf ((l.drop 4).take 4), 0) from G2.out]
        rintro e w1 ⟨rfl, rfl⟩
        go_wp2_with fail
        refine (Get_any _ _ _ _ _ 8 8 _ hrc hc (by decide)).mono ?_
        rw [show getR l 8 8 = (numOf ((l.drop 8).take 8), 0) from G3.out]
        rintro e w1 ⟨rfl, rfl⟩
        go_wp2_with fail
        refine (secRight_said _ _ _).mono ?_
        rw [← HS.out]
        rintro e w1 ⟨rfl, rfl⟩
        go_wp2_with fail
        refine (CloneB_own _ hr16c hBc (by decide)).mono ?_
        rintro e w2 ⟨A2, c2, rfl, hc2, ho2, hb2⟩
        have hr2 : Mine w2 w.heap.size A2 240 c2 (l.drop 16) := ⟨own_base_le ho2 HBW.out.size, hr16c.bytes⟩
        clear ho2
        go_wp2
        exact bodyPost_ret (v := .tuple #[.int .i64 (numOf ((l.drop 4).take 4)), .int .i64 (numOf ((l.drop 8).take 8)), .slice A2 240 c2, .int .i64 0]) (by simp [results, Tryd.results37, go_sem]) rfl (by rw [HN.out]; exact ⟨A2, 240, c2, rfl, hc2, hr2, HBW.out.trans (hb2.mono HBW.out.size)⟩)

theorem unpack_own : UnpackOwn := by
  intro A n c B l w hr hB hc hn ht hg
  by_cases h : n = 256
  · subst h
    exact Unpack_256o A c B l w hr hB hc ht hg
  · refine (Unpack_len A n c w (by unfold maxLen; omega) h).mono ?_
    have hne : unpackR l = (0, 0, [], 4) := by
      unfold unpackR
      rw [if_neg]
      rintro ⟨h', _⟩
      exact h (by rw [← hr.len]; exact h')
    rw [hne]
    rintro e w' ⟨rfl, hb⟩
    exact ⟨none, 0, 0, rfl, Nat.le_refl _, Mine.nil_ _ _, hb⟩

section
variable {D : World → (Nat → Prop) → Addr → DS → Prop} {w w' : World} {F O : Nat → Prop} {p : Addr} {S : DS} {q r b : Nat} {seq : Int} {L : List (Int × List Int)}
set_option maxHeartbeats 1600000 in
theorem load_own (api : DiskApi D) (h : D w F p S) (hq : PLog w q p seq) (ht : TabF w F) (pg : Int) (hpg : -9223372036854775808 ≤ pg ∧ pg ≤ 9223372036854775807) : Calls Tryd.prog 48 #[.pointer (some ⟨q, 0, none⟩), .int .i64 pg] w fun e w' => ∃ A n c, e = .returned (.tuple #[.slice A n c, .int .i64 (loadS S pg).2]) ∧ n ≤ c ∧ Mine w' w.heap.size A n c (loadS S pg).1 ∧ Below w.heap.size w w' := by
  obtain ⟨i0, hi, hz0, hz1, hz2⟩ := info_parts info_u8
  obtain ⟨l0, l1, l2, l3⟩ := hq.cells
  have hok := api.ok _ _ _ _ h
  have hsz := hok.size
  have hpb := pagesOf_bounds (S.n : Int)
  have hpn := (pagesOf_nn (S.n : Int)).2.1 (by omega)
  have hP : S.P = pagesOf S.n := rfl
  have HM := Lib.hid (made_any hq)
  have HS := Lib.hid (api.sizes _ _ _ _ h)
  have HT := Lib.hid ht
  have HUP := Lib.hid unpack_own
  have HHM := Lib.hid (fun w1 => lay_said.home (S.n : Int) pg w1 (by omega) hpg)
  have HRD := Lib.hid (fun w1 (hb : Below w.heap.size w w1) => api.read (pg + 1 + pagesOf S.n) w1 F p S (api.below h hb))
  by_cases hr : pg < 0 ∨ pg ≥ pagesOf S.n
  · have hL : loadS S pg = ([], 1) := by unfold loadS; rw [hP, if_pos hr]
    have hh : homeOf (S.n : Int) pg = (0, false) := by unfold homeOf; rw [if_pos hr]
    rw [hh] at HHM
    rw [hL]
    clear hL hh hr h hq ht hok
    go_enter Tryd.func48, Tryd.ntmps48
    go_wp2_with fail
    refine HM.out.mono ?_
    rintro e w1 ⟨rfl, rfl⟩
    go_wp2_with fail
    refine HS.out.mono ?_
    rintro e w1 ⟨rfl, hb1⟩
    have l0 := (hb1.cell (p := ⟨q, 0, none⟩) l3).trans l0
    go_wp2_with fail
    refine (HHM.out w1).mono ?_
    rintro e w2 ⟨rfl, rfl⟩
    go_wp2
    go_ret2
    exact ⟨none, 0, 0, rfl, Nat.le_refl _, Mine.nil_ _ _, hb1⟩
  have hh : homeOf (S.n : Int) pg = (pg + 1 + pagesOf S.n, true) := by unfold homeOf; rw [if_neg hr]
  rw [hh] at HHM
  by_cases hd : S.down = true
  · have hL : loadS S pg = ([], 5) := by unfold loadS; rw [hP, if_neg hr, if_pos hd]
    have hre : S.readE (pg + 1 + pagesOf S.n) = 5 := by simp [DS.readE, hd]
    have hrl : S.readL (pg + 1 + pagesOf S.n) = [] := by simp [DS.readL, hre]
    rw [hre, hrl] at HRD
    rw [hL]
    clear hL hh hr h hq ht hok hre hrl hd
    go_enter Tryd.func48, Tryd.ntmps48
    go_wp2_with fail
    refine HM.out.mono ?_
    rintro e w1 ⟨rfl, rfl⟩
    go_wp2_with fail
    refine HS.out.mono ?_
    rintro e w1 ⟨rfl, hb1⟩
    have l0 := (hb1.cell (p := ⟨q, 0, none⟩) l3).trans l0
    go_wp2_with fail
    refine (HHM.out w1).mono ?_
    rintro e w2 ⟨rfl, rfl⟩
    go_wp2_with fail
    refine (HRD.out w1 hb1).mono ?_
    rintro e w3 ⟨A3, n3, c3, rfl, hc3, hr3, hb3⟩
    have hb03 := hb1.trans (hb3.mono hb1.size)
    have ht3 := HT.out.below hb03
    have HB := Lib.hid hb03
    clear hb03 ht3
    go_wp2
    go_ret2
    exact ⟨none, 0, 0, rfl, Nat.le_refl _, Mine.nil_ _ _, HB.out⟩
  have hd' : S.down = false := by simpa using hd
  obtain ⟨a, ha⟩ := Int.eq_ofNat_of_zero_le (show 0 ≤ pg + 1 + pagesOf S.n by omega)
  have hre : S.readE (pg + 1 + pagesOf S.n) = 0 := by
    unfold DS.readE
    rw [if_neg (by simp [hd']), if_pos (show S.has _ from ⟨by omega, by omega⟩)]
  have hrl : S.readL (pg + 1 + pagesOf S.n) = S.last a := by
    unfold DS.readL
    rw [if_pos hre, ha, Int.toNat_natCast]
  rw [hre, hrl] at HRD
  have hbytes := hok.lastBytes a
  have HLN := Lib.hid hbytes.1
  have hL : loadS S pg = if (unpackR (S.last a)).2.2.2 ≠ 0 ∨ (unpackR (S.last a)).1 ≠ pg then (zpage, 0) else ((unpackR (S.last a)).2.2.1, 0) := by
    unfold loadS
    rw [hP, if_neg hr, if_neg hd, ha, Int.toNat_natCast]
  have HL := Lib.hid hL
  clear hL hh hr h hq ht hok hre hrl hd hd' ha hbytes
  generalize hpge : (unpackR (S.last a)).1 = pe at HL
  generalize her : (unpackR (S.last a)).2.2.2 = er at HL
  have HPE := Lib.hid (And.intro hpge her)
  clear hpge her
  by_cases h1 : er = 0
  · subst h1
    by_cases h2 : pe = pg
    · subst h2
      have k2 : (pe == pe) = true := by simp
      have HL2 := Lib.hid (HL.out.trans (if_neg (by simp)))
      go_enter Tryd.func48, Tryd.ntmps48
      go_wp2_with fail
      refine HM.out.mono ?_
      rintro e w1 ⟨rfl, rfl⟩
      go_wp2_with fail
      refine HS.out.mono ?_
      rintro e w1 ⟨rfl, hb1⟩
      have l0 := (hb1.cell (p := ⟨q, 0, none⟩) l3).trans l0
      go_wp2_with fail
      refine (HHM.out w1).mono ?_
      rintro e w2 ⟨rfl, rfl⟩
      go_wp2_with fail
      refine (HRD.out w1 hb1).mono ?_
      rintro e w3 ⟨A3, n3, c3, rfl, hc3, hr3, hb3⟩
      have hb03 := hb1.trans (hb3.mono hb1.size)
      have ht3 := HT.out.below hb03
      go_wp2_with fail
      refine (HUP.out A3 n3 c3 _ _ w3 hr3 (Nat.le_refl _) hc3 (by have := hr3.len; rw [HLN.out] at this; omega) ht3.tab ht3.lt).mono ?_
      rw [HPE.out.1, HPE.out.2]
      rintro e w4 ⟨A4, n4, c4, rfl, hc4, hr4, hb4⟩
      have hb04 := hb03.trans (hb4.mono hb03.size)
      have hr4 := hr4.base_le hb03.size
      have HF := Lib.hid (And.intro hc4 (And.intro hr4 hb04))
      clear hc4 hr4 hb4 hb04 hr3 hb3 hb03 ht3
      go_wp2
      go_ret2
      rw [HL2.out]
      exact ⟨_, _, _, rfl, HF.out⟩
    · have k2 : (pe == pg) = false := by simpa using h2
      have HL2 := Lib.hid (HL.out.trans (if_pos (.inr h2)))
      clear h2
      go_enter Tryd.func48, Tryd.ntmps48
      go_wp2_with fail
      refine HM.out.mono ?_
      rintro e w1 ⟨rfl, rfl⟩
      go_wp2_with fail
      refine HS.out.mono ?_
      rintro e w1 ⟨rfl, hb1⟩
      have l0 := (hb1.cell (p := ⟨q, 0, none⟩) l3).trans l0
      go_wp2_with fail
      refine (HHM.out w1).mono ?_
      rintro e w2 ⟨rfl, rfl⟩
      go_wp2_with fail
      refine (HRD.out w1 hb1).mono ?_
      rintro e w3 ⟨A3, n3, c3, rfl, hc3, hr3, hb3⟩
      have hb03 := hb1.trans (hb3.mono hb1.size)
      have ht3 := HT.out.below hb03
      go_wp2_with fail
      refine (HUP.out A3 n3 c3 _ _ w3 hr3 (Nat.le_refl _) hc3 (by have := hr3.len; rw [HLN.out] at this; omega) ht3.tab ht3.lt).mono ?_
      rw [HPE.out.1, HPE.out.2]
      rintro e w4 ⟨A4, n4, c4, rfl, hc4, hr4, hb4⟩
      have hb04 := hb03.trans (hb4.mono hb03.size)
      clear hc4 hr4 hb4 hr3 hb3 hb03 ht3
      go_wp2_with (refine wpList_make_full w4 rfl _ _ 69 rfl w4.heap.size 5 i0 (.int .u8 0) 1 Tryd.underlying69 hi hz0 hz1 .i64 .i64 _ _ 240 rfl rfl rfl rfl (by rw [hz2]; decide) (by decide) (Nat.le_refl _) ?_; intro w5 hown5 hg5; have hb5 : Below w4.heap.size w4 w5 := (Below.refl _ _).grown hg5 (Nat.le_refl _) (by simp); have hr5 : Mine w5 w.heap.size _ 240 240 zpage := (Mine.made hown5).base_le hb04.size; have HF := Lib.hid (And.intro hr5 (hb04.trans (hb5.mono hb04.size))); clear hown5 hg5 hb5 hr5)
      go_ret2
      rw [HL2.out]
      exact ⟨_, 240, 240, rfl, Nat.le_refl _, HF.out⟩
  · have k1 : (er == 0) = false := by simpa using h1
    have HL2 := Lib.hid (HL.out.trans (if_pos (.inl h1)))
    clear h1
    go_enter Tryd.func48, Tryd.ntmps48
    go_wp2_with fail
    refine HM.out.mono ?_
    rintro e w1 ⟨rfl, rfl⟩
    go_wp2_with fail
    refine HS.out.mono ?_
    rintro e w1 ⟨rfl, hb1⟩
    have l0 := (hb1.cell (p := ⟨q, 0, none⟩) l3).trans l0
    go_wp2_with fail
    refine (HHM.out w1).mono ?_
    rintro e w2 ⟨rfl, rfl⟩
    go_wp2_with fail
    refine (HRD.out w1 hb1).mono ?_
    rintro e w3 ⟨A3, n3, c3, rfl, hc3, hr3, hb3⟩
    have hb03 := hb1.trans (hb3.mono hb1.size)
    have ht3 := HT.out.below hb03
    go_wp2_with fail
    refine (HUP.out A3 n3 c3 _ _ w3 hr3 (Nat.le_refl _) hc3 (by have := hr3.len; rw [HLN.out] at this; omega) ht3.tab ht3.lt).mono ?_
    rw [HPE.out.1, HPE.out.2]
    rintro e w4 ⟨A4, n4, c4, rfl, hc4, hr4, hb4⟩
    have hb04 := hb03.trans (hb4.mono hb03.size)
    clear hc4 hr4 hb4 hr3 hb3 hb03 ht3
    go_wp2_with (refine wpList_make_full w4 rfl _ _ 69 rfl w4.heap.size 5 i0 (.int .u8 0) 1 Tryd.underlying69 hi hz0 hz1 .i64 .i64 _ _ 240 rfl rfl rfl rfl (by rw [hz2]; decide) (by decide) (Nat.le_refl _) ?_; intro w5 hown5 hg5; have hb5 : Below w4.heap.size w4 w5 := (Below.refl _ _).grown hg5 (Nat.le_refl _) (by simp); have hr5 : Mine w5 w.heap.size _ 240 240 zpage := (Mine.made hown5).base_le hb04.size; have HF := Lib.hid (And.intro hr5 (hb04.trans (hb5.mono hb04.size))); clear hown5 hg5 hb5 hr5)
    go_ret2
    rw [HL2.out]
    exact ⟨_, 240, 240, rfl, Nat.le_refl _, HF.out⟩

set_option maxHeartbeats 800000 in
theorem pget_own (api : DiskApi D) (h : PgAt D w F O p S q seq r b L) (ht : TabF w F) (i : Int) (hi : -9223372036854775808 ≤ i ∧ i ≤ 9223372036854775807) : Calls Tryd.prog 24 #[.pointer (some ⟨r, 0, none⟩), .int .i64 i] w fun e w' => ∃ A n c, e = .returned (.tuple #[.slice A n c, .int .i64 (getPg S L i).2]) ∧ n ≤ c ∧ Mine w' w.heap.size A n c (getPg S L i).1 ∧ Below w.heap.size w w' := by
  obtain ⟨l0, l1, l2⟩ := h.cells
  have HM := Lib.hid (pmade_any h)
  obtain ⟨f, hf, hset⟩ := h.set
  have HLD := Lib.hid (load_own api h.d h.log ht i hi)
  have q1 := hf.look Tryd.underlying77 (zero_slice w) hi
  cases ha : atL L i with
  | none =>
    have hg : getPg S L i = loadS S i := by unfold getPg; rw [ha]
    rw [(hset i).1 ha] at q1
    simp only [Option.getD_none, Option.isSome_none] at q1
    rw [hg]
    clear hg ha hset hf h ht
    go_enter Tryd.func24, Tryd.ntmps24
    go_wp2_with fail
    refine HM.out.mono ?_
    rintro e w1 ⟨rfl, rfl⟩
    go_wp2_with fail
    refine HLD.out.mono ?_
    rintro e w1 ⟨A, n, c, rfl, hc, hr, hb⟩
    have HE := Lib.hid (And.intro hr hb)
    clear hr hb
    go_wp2
    go_ret2
    exact ⟨_, _, _, rfl, hc, HE.out.1, HE.out.2⟩
  | some l =>
    have hg : getPg S L i = (l, 0) := by unfold getPg; rw [ha]
    obtain ⟨g, c, e1, hc, hr, _⟩ := (hset i).2 l ha
    rw [e1] at q1
    simp only [Option.getD_some, Option.isSome_some] at q1
    have HCL := Lib.hid (CloneB_own c hr (Nat.le_refl _) (by decide))
    have HBY := Lib.hid hr.bytes
    rw [hg]
    clear hg ha hset hf h ht hr e1
    go_enter Tryd.func24, Tryd.ntmps24
    go_wp2_with fail
    refine HM.out.mono ?_
    rintro e w1 ⟨rfl, rfl⟩
    go_wp2_with fail
    refine HCL.out.mono ?_
    rintro e w1 ⟨A, c1, rfl, hc1, hr, hb⟩
    have hr : Mine w1 w.heap.size A 240 c1 l := ⟨hr, HBY.out⟩
    have HE := Lib.hid (And.intro hr hb)
    clear hr hb
    go_wp2
    go_ret2
    exact ⟨_, _, _, rfl, hc1, HE.out.1, HE.out.2⟩
end

end Go.Proofs.YtkpmfobmlaldfaaDoor

/-
  Contracts of the program's pager's Set and New. Conditions: numbers and lengths are ints.
-/
namespace Go.Proofs.YtkpmfobmlaldfaaDoor
open Go.RowKit
set_option maxRecDepth 100000
set_option linter.unusedVariables false

section
variable {D : World → (Nat → Prop) → Addr → DS → Prop} {w w' : World} {F O : Nat → Prop} {p : Addr} {S : DS} {q r b : Nat} {seq : Int} {L : List (Int × List Int)}

/-- Stored: the map holds the slice of a new block at i. -/
theorem PgAt.stored (api : DiskApi D) (h : PgAt D w F O p S q seq r b L) {i : Int} {l : List Int} (hi : 0 ≤ i ∧ i < S.P) (hl : l.length = 240) (hb : AllBytes l) {w1 : World} {g c : Nat} (hb1 : Below w.heap.size w w1) (hg : w.heap.size ≤ g) (hc : 240 ≤ c) (hr : RB w1 w1.heap.size (some ⟨g, 0, none⟩) 240 l) :
    ∃ w2, (Instr.mapUpdate 77 (.map (some b)) (.int .i64 i) (.slice (some ⟨g, 0, none⟩) 240 c)).run Tryd.prog w1 = .ok () w2 ∧ Hid (PgAt D w2 F (fun k => O k ∨ k = g) p S q seq r b (setL L i l) ∧ Touch O w w2) := by
  have hfew := few_set h.up h.all
  have hpb := pagesOf_bounds (S.n : Int)
  have h1 := h.below api hb1
  obtain ⟨f, hf, hset⟩ := h1.set
  have hgl : g < w1.heap.size := by obtain ⟨bb, _, e, hbb, _⟩ := hr.at_ (by decide); cases e; exact hbb
  obtain ⟨w2, hrun, hm2, hg2⟩ := hf.store Tryd.underlying77 (i := i) (by unfold maxLen; unfold DS.P at hfew; omega) (by unfold DS.P at hi; omega) (.slice (some ⟨g, 0, none⟩) 240 c)
  have hsup : ∀ j, (fun j => if j = i then some (Value.slice (some ⟨g, 0, none⟩) 240 c) else f j) j ≠ none → j ∈ (setL L i l).map (·.1) := by
    intro j hj
    have hup : Rising (setL L i l) := h.up.set
    rw [← atL_ne hup, atL_setL]
    by_cases e : j = i
    · rw [if_pos e]; simp
    · rw [if_neg e]
      intro ha
      simp only [if_neg e] at hj
      exact hj ((hset j).1 ha)
  have hm3 := hm2.tight ((setL L i l).map (·.1)) hsup
  rw [List.length_map] at hm3
  have hno : ∀ k, (F k ∨ k = q ∨ k = r ∨ k = b) → k ≠ g := fun k hk e => by
    have := h.lt k (h.own k hk)
    omega
  have hgb : g ≠ b := fun e => hno b (.inr (.inr (.inr rfl))) e.symm
  refine ⟨w2, hrun, Lib.hid ⟨h1.turn api hg2 (fun k hk => .inl hk) (fun k hk => ?_) ⟨_, hm3, fun j => ?_⟩ h.up.set (h.all.set hi hl hb), ?_⟩⟩
  · rcases hk with a | a
    · exact Nat.lt_of_lt_of_le (h1.lt k a) hg2.size
    · rw [a]; exact Nat.lt_of_lt_of_le hgl hg2.size
  · rw [atL_setL]
    by_cases e : j = i
    · rw [if_pos e]
      refine ⟨fun ha => (by cases ha), fun l' hl' => ?_⟩
      cases hl'
      refine ⟨g, c, by simp [e], hc, hr.there (by decide) (hg2.block g hgl (fun e => hgb (Option.some.inj e))) hg2.size, fun hx => hno g hx rfl, .inr rfl⟩
    · rw [if_neg e]
      refine ⟨fun ha => by simp only [if_neg e]; exact (hset j).1 ha, fun l' hl' => ?_⟩
      obtain ⟨g', c', e1, e2, e3, e4, e5⟩ := (hset j).2 l' hl'
      have hg' : g' < w1.heap.size := by obtain ⟨bb, _, e, hbb, _⟩ := e3.at_ (by decide); cases e; exact hbb
      exact ⟨g', c', by simp only [if_neg e]; exact e1, e2, e3.there (by decide) (hg2.block g' hg' (fun e => e4 (.inr (.inr (.inr (Option.some.inj e)))))) hg2.size, e4, .inl e5⟩
  · have hOb := h.own b (.inr (.inr (.inr rfl)))
    exact ⟨hg2.os.trans hb1.os, hg2.tape.trans hb1.tape, hg2.output.trans hb1.output, Nat.le_trans hb1.size hg2.size, fun k hk hn => (hg2.block k (Nat.lt_of_lt_of_le hk hb1.size) (fun e => hn (by injection e with e; rw [e]; exact hOb))).trans (hb1.block k hk)⟩

set_option maxHeartbeats 3200000 in
theorem pset_any (api : DiskApi D) (h : PgAt D w F O p S q seq r b L) (i : Int) {A : Option Addr} {n c B : Nat} {l : List Int} (hi : -9223372036854775808 ≤ i ∧ i ≤ 9223372036854775807) (hr : RB w B A n l) (hB : B ≤ w.heap.size) (hn : n ≤ maxLen) :
    Calls Tryd.prog 26 #[.pointer (some ⟨r, 0, none⟩), .int .i64 i, .slice A n c] w fun e w' => e = .returned (.int .i64 (setPgE S i l)) ∧ ∃ O', PgAt D w' F O' p S q seq r b (setPg S L i l) ∧ Touch O w w' ∧ ∀ k, O' k → O k ∨ w.heap.size ≤ k := by
  unfold maxLen at hn
  obtain ⟨l0, l1, l2⟩ := h.cells
  have hlen := hr.len
  have HM := Lib.hid (pmade_any h)
  have HP := Lib.hid (ppages_any api h)
  have hPd : S.P = pagesOf S.n := rfl
  have HH := Lib.hid h
  have HSAME := Lib.hid (show PgAt D w F O p S q seq r b L ∧ Touch O w w ∧ ∀ k, O k → O k ∨ w.heap.size ≤ k from ⟨h, Touch.refl _ _, fun k hk => .inl hk⟩)
  by_cases h1 : i < 0
  · have hE : setPgE S i l = 1 ∧ setPg S L i l = L := by unfold setPgE setPg; exact ⟨if_pos (.inl h1), if_pos (.inl h1)⟩
    have k1 : decide (i < 0) = true := by simpa using h1
    rw [hE.1, hE.2]
    clear hE h1 h hr hlen
    go_enter Tryd.func26, Tryd.ntmps26
    go_wp2_with fail
    refine HM.out.mono ?_
    rintro e w1 ⟨rfl, rfl⟩
    go_wp2
    go_ret
    exact ⟨rfl, O, HSAME.out⟩
  have k1 : decide (i < 0) = false := by simpa using h1
  by_cases h2 : i ≥ S.P
  · have hE : setPgE S i l = 1 ∧ setPg S L i l = L := by unfold setPgE setPg; exact ⟨if_pos (.inr (.inl h2)), if_pos (.inr (.inl h2))⟩
    have k2 : decide (i ≥ pagesOf S.n) = true := by rw [← hPd]; simpa using h2
    rw [hE.1, hE.2]
    clear hE h1 h2 h hr hlen hPd
    go_enter Tryd.func26, Tryd.ntmps26
    go_wp2_with fail
    refine HM.out.mono ?_
    rintro e w1 ⟨rfl, rfl⟩
    go_wp2_with fail
    refine HP.out.mono ?_
    rintro e w1 ⟨rfl, hw⟩
    have hw := hw.symm
    subst hw
    go_wp2
    go_ret
    exact ⟨rfl, O, HSAME.out⟩
  have k2 : decide (i ≥ pagesOf S.n) = false := by rw [← hPd]; simpa using h2
  by_cases h3 : n = 240
  · subst h3
    have hE : setPgE S i l = 0 ∧ setPg S L i l = setL L i l := by unfold setPgE setPg; exact ⟨if_neg (by rw [hlen]; omega), if_neg (by rw [hlen]; omega)⟩
    rw [hE.1, hE.2]
    have hrd : RB w.drew w.drew.heap.size A 240 l := (hr.more hB).drew
    have HST := Lib.hid (fun (w1 : World) (g c1 : Nat) (hb1 : Below w.heap.size w w1) (hg : w.heap.size ≤ g) (hc : 240 ≤ c1) (hr1 : RB w1 w1.heap.size (some ⟨g, 0, none⟩) 240 l) => h.stored api (i := i) ⟨by omega, by omega⟩ hlen hr.bytes hb1 hg hc hr1)
    have HBY := Lib.hid hr.bytes
    clear hE h1 h2 h hr hlen hPd
    go_enter Tryd.func26, Tryd.ntmps26
    go_wp2_with fail
    refine HM.out.mono ?_
    rintro e w1 ⟨rfl, rfl⟩
    go_wp2_with fail
    refine HP.out.mono ?_
    rintro e w1 ⟨rfl, hw⟩
    have hw := hw.symm
    subst hw
    go_wp2_with fail
    have e1 : w.drew.cell? ⟨r, 1, none⟩ = some (.map (some b)) := l1
    go_region_with
      (go_at_call 47; refine (CloneB_own c hrd (Nat.le_refl _) (by decide)).mono ?_; rintro e w5 ⟨A5, k5, rfl, hk5, hown5, hb5⟩; obtain ⟨g5, k5', e5, hk5', hg5⟩ := own_some hown5 (by decide); cases e5; have hb5' : Below w.heap.size w w5 := (Below.refl _ _).drew.trans hb5; obtain ⟨w6, hrun6, HE⟩ := HST.out w5 g5 k5 hb5' hg5 hk5 (RB.of_own hown5 HBY.out); have l5 : w5.cell? ⟨r, 1, none⟩ = some (.map (some b)) := (hb5'.cell (p := ⟨r, 1, none⟩) l2).trans l1; clear hown5 hb5 hb5')
    all_goals go_wp2
    all_goals go_ret
    all_goals exact ⟨rfl, _, HE.out.1, HE.out.2, fun k hk => hk.imp id (fun e => by rw [e]; exact hg5)⟩
  · have hE : setPgE S i l = 1 ∧ setPg S L i l = L := by unfold setPgE setPg; exact ⟨if_pos (.inr (.inr (by rw [hlen]; exact h3))), if_pos (.inr (.inr (by rw [hlen]; exact h3)))⟩
    have k3 : ((n : Int) != 240) = true := by simp; omega
    rw [hE.1, hE.2]
    clear hE h1 h2 h3 h hr hlen hPd
    go_enter Tryd.func26, Tryd.ntmps26
    go_wp2_with fail
    refine HM.out.mono ?_
    rintro e w1 ⟨rfl, rfl⟩
    go_wp2_with fail
    refine HP.out.mono ?_
    rintro e w1 ⟨rfl, hw⟩
    have hw := hw.symm
    subst hw
    go_wp2
    go_ret
    exact ⟨rfl, O, HSAME.out⟩
end

end Go.Proofs.YtkpmfobmlaldfaaDoor

/-
  Plain: a commit of no image, and how many sectors a commit writes. No program.
-/
namespace Go.Proofs.YtkpmfobmlaldfaaDoor
open Go.RowKit
set_option maxRecDepth 100000
set_option linter.unusedVariables false

theorem ints_few {N : Nat} {l : List Int} (hn : l.Nodup) (h : ∀ x ∈ l, 0 ≤ x ∧ x < N) : l.length ≤ N := by
  have h1 : (l.map Int.toNat).Nodup := by
    rw [List.nodup_iff_pairwise_ne, List.pairwise_map]
    refine (List.pairwise_iff_getElem.2 fun i j hi hj hij => ?_)
    have h2 := h _ (List.getElem_mem hi)
    have h3 := h _ (List.getElem_mem hj)
    have h4 := (List.pairwise_iff_getElem.1 (List.nodup_iff_pairwise_ne.1 hn)) i j hi hj hij
    omega
  have := nodup_lt N _ h1 (fun x hx => by
    obtain ⟨y, hy, rfl⟩ := List.mem_map.1 hx
    have := h y hy
    omega)
  simpa using this
theorem commit_nil {S : DS} {seq : Int} : commitS S seq [] = (0, seq, S) := by
  have hb := pagesOf_bounds (S.n : Int)
  rw [commitS_not (.inr rfl)]
  have : rightE S [] = 0 := by
    unfold rightE
    rw [if_neg (by show ¬ ((0 : Nat) : Int) > pagesOf _; omega), if_pos ⟨(fun x hx => by cases hx), List.nodup_nil⟩]
  rw [this]
/-- How many sectors a commit of so many images writes. -/
def wantW (n : Nat) : Nat := if n = 0 then 0 else 2 * n + 1
/-- A commit, of no image too. -/
theorem free_commit_all {S : DS} {f : Nat → List Int} {n seq : Int} {l : List (Int × List Int)} (hn : n = S.n) (hn3 : 3 ≤ n) (hI : Imgs n seq l) (h : Free S) (hR : Rests S f) :
    (commitS S seq l).1 = 0 ∧ (commitS S seq l).2.2.n = S.n ∧ Free (commitS S seq l).2.2 ∧ (commitS S seq l).2.2.writes = S.writes + wantW l.length := by
  by_cases hne : l = []
  · subst hne
    rw [commit_nil]
    exact ⟨rfl, rfl, h, rfl⟩
  · obtain ⟨h1, h2, h3, h4, h5, h6⟩ := free_commit hn hn3 hI hne h hR
    refine ⟨h1, h4, h3, ?_⟩
    rw [h5]
    unfold wantW
    rw [if_neg (fun e => hne (List.eq_nil_of_length_eq_zero e))]

end Go.Proofs.YtkpmfobmlaldfaaDoor

/-
  Plain: a crash in the middle of a commit leaves all its pages or none. No program.
-/
namespace Go.Proofs.YtkpmfobmlaldfaaDoor
open Go.RowKit
set_option maxRecDepth 100000
set_option linter.unusedVariables false

section
variable {S : DS} {f g : Nat → List Int} {n seq : Int}

/-- A disk that rests on an image which reads as it does when it is opened. -/
structure Set_ (S : DS) (f : Nat → List Int) (seq : Int) : Prop where
  rests : Rests S f
  opn : opened S.n f = f
  err : (unpackR (f 0)).2.2.2 = 0
  num : (unpackR (f 0)).2.1 = seq

theorem opened_zero (hn : 0 ≤ pagesOf n) (f : Nat → List Int) : opened n f 0 = f 0 := by
  rcases h : listed n f with _ | l
  · rw [opened_none h]
  · rw [opened_some h, putH_far _ _ (fun x hx e => by have := (listed_mem h x hx).1.1; omega)]
theorem Free.fuse_crash (S : DS) (k : List Int) : Free (S.crash k) := ⟨rfl, rfl⟩
theorem Rests.fuse (h : Rests S f) (k : Int) : Rests (S.fuse k) f := ⟨h.safe, h.last, h.up⟩
theorem Set_.fuse (h : Set_ S f seq) (k : Int) : Set_ (S.fuse k) f seq := ⟨h.rests.fuse k, h.opn, h.err, h.num⟩

/-- From a crash on: Open (wherever the disk goes down), a crash, Open. -/
theorem atomic_tail (hn : n = S.n) (hn3 : 3 ≤ n) (hR : Rests S g) (hm : (unpackR (g 0)).2.2.2 = 0) (k : Int) (kept : List Int) :
    (openS ((openS (S.fuse k)).2.2.crash kept)).1 = 0 ∧ (openS ((openS (S.fuse k)).2.2.crash kept)).2.2.n = S.n ∧ Free (openS ((openS (S.fuse k)).2.2.crash kept)).2.2 ∧ Set_ (openS ((openS (S.fuse k)).2.2.crash kept)).2.2 (opened n g) (unpackR (g 0)).2.1 := by
  have hnn := (pagesOf_nn n).1
  obtain ⟨g', h1, h2, h3, h4⟩ := open_leaves (n := n) (S := S.fuse k) hn (hR.fuse k) hm kept
  obtain ⟨o1, o2, o3, o4, o5⟩ := open_free (n := n) (S := (openS (S.fuse k)).2.2.crash kept) (by rw [h4]; exact hn) hn3 (Free.fuse_crash _ _) h1 (by rw [h2]; exact hm)
  refine ⟨o1, o5.trans h4, o4, ?_⟩
  have hz := opened_zero hnn g
  rw [h3] at o3
  refine ⟨o3, ?_, by rw [hz]; exact hm, by rw [hz]⟩
  rw [o5.trans h4, show ((S.fuse k).n : Int) = n from hn.symm]
  exact opened_twice hnn g

/-- All pages of a commit are there, or none. -/
theorem atomic_plain {l : List (Int × List Int)} (hn : n = S.n) (hn3 : 3 ≤ n) (hI : Imgs n seq l) (hS : Set_ S f seq) (keep : List Int) (k : Int) (kept : List Int) :
    ∃ g, (openS ((openS ((((commitS S seq l).2.2).crash keep).fuse k)).2.2.crash kept)).1 = 0 ∧ (openS ((openS ((((commitS S seq l).2.2).crash keep).fuse k)).2.2.crash kept)).2.2.n = S.n ∧ Free (openS ((openS ((((commitS S seq l).2.2).crash keep).fuse k)).2.2.crash kept)).2.2 ∧
      (∃ s, Set_ (openS ((openS ((((commitS S seq l).2.2).crash keep).fuse k)).2.2.crash kept)).2.2 g s) ∧
      (((∀ x ∈ l, pageIn n g x.1 = x.2) ∧ ∀ p, 0 ≤ p → p < pagesOf n → (∀ x ∈ l, x.1 ≠ p) → pageIn n g p = pageIn n f p) ∨ ((commitS S seq l).1 ≠ 0 ∧ ∀ p, 0 ≤ p → p < pagesOf n → pageIn n g p = pageIn n f p)) := by
  have hnn := (pagesOf_nn n).1
  have hop : opened n f = f := by have := hS.opn; rw [← hn] at this; exact this
  by_cases hne : l = []
  · subst hne
    rw [commit_nil]
    obtain ⟨h1, h2⟩ := (hS.rests.both (fun _ _ => False)).crash keep
    have e : (S.crash keep).last = f := by
      funext i
      rcases h1 i with e | e
      · exact e
      · exact e.elim
    rw [e] at h2
    obtain ⟨t1, t2, t3, t4⟩ := atomic_tail (S := S.crash keep) (n := n) hn hn3 h2 hS.err k kept
    rw [hop] at t4
    exact ⟨f, t1, t2, t3, ⟨_, t4⟩, .inl ⟨(fun x hx => by cases hx), fun p _ _ _ => rfl⟩⟩
  · obtain ⟨g1, g2⟩ := commit_leaves hn hI hne hS.rests
    have hn' : n = ((commitS S seq l).2.2.crash keep).n := by show n = ((commitS S seq l).2.2.n : Int); rw [g1]; exact hn
    have hpage : ∀ a b : Nat → List Int, (∀ j : Nat, pagesOf n < j → a j = b j) → ∀ p, 0 ≤ p → p < pagesOf n → pageIn n a p = pageIn n b p := fun a b h p hp _ => by
      unfold pageIn
      rw [h _ (by omega)]
    rcases g2 with ⟨he, hB⟩ | ⟨hB, _⟩
    · obtain ⟨h1, h2⟩ := hB.crash keep
      obtain ⟨v1, v2⟩ := view_slots hI hS.num hop h1
      obtain ⟨t1, t2, t3, t4⟩ := atomic_tail (n := n) hn' hn3 h2 (by rw [v1]; exact hS.err) k kept
      exact ⟨_, t1, t2.trans g1, t3, ⟨_, t4⟩, .inr ⟨he, hpage _ _ v2⟩⟩
    · obtain ⟨h1, h2⟩ := hB.crash keep
      obtain ⟨m1, m2, m3⟩ := view_marked (f := f) hI
      obtain ⟨p1, p2⟩ := opened_part hnn m2 h1
      have hz := homeW_far (fun x hx => (listed_mem m2 x hx).1.1) h1 hnn (j := 0) (by omega)
      obtain ⟨t1, t2, t3, t4⟩ := atomic_tail (n := n) hn' hn3 h2 (by rw [hz, m1]) k kept
      rw [p2, opened_some m2] at t4
      exact ⟨_, t1, t2.trans g1, t3, ⟨_, t4⟩, .inl (pages_marked hI)⟩

/-- The log behind the first commit. -/
theorem first_set {m : Nat} {l : List (Int × List Int)} (hn : (m : Int) = S.n) (hn3 : 3 ≤ (m : Int)) (hI : Imgs m 1 l) (hF : Free S) (hR : Rests S fresh1) :
    (commitS S 1 l).1 = 0 ∧ (commitS S 1 l).2.2.n = S.n ∧ Free (commitS S 1 l).2.2 ∧ (commitS S 1 l).2.2.writes = S.writes + wantW l.length ∧ (1 ≤ (commitS S 1 l).2.1 ∧ (commitS S 1 l).2.1 ≤ 2) ∧ ∃ f, Set_ (commitS S 1 l).2.2 f (commitS S 1 l).2.1 := by
  obtain ⟨a1, a2, a3, a4⟩ := free_commit_all hn hn3 hI hF hR
  have hnn := (pagesOf_nn (m : Int)).1
  refine ⟨a1, a2, a3, a4, ?_⟩
  by_cases hne : l = []
  · subst hne
    rw [commit_nil]
    exact ⟨⟨by show (1 : Int) ≤ 1; omega, by show (1 : Int) ≤ 2; omega⟩, fresh1, hR, by rw [← hn]; exact (fresh1_opened _).2, by rw [fresh1_mark], by rw [fresh1_mark]⟩
  · obtain ⟨h1, h2, h3, h4, h5, h6⟩ := free_commit hn hn3 hI hne hF hR
    refine ⟨by rw [h2]; omega, _, h6, ?_, ?_, ?_⟩
    · rw [h4, ← hn]
      obtain ⟨m1, m2, m3⟩ := view_marked (f := fresh1) hI
      rw [← opened_some m2]
      exact opened_twice hnn _
    · obtain ⟨m1, m2, m3⟩ := view_marked (f := fresh1) hI
      rw [putH_far _ _ (fun x hx e => by have := (hI.mem hx).1.1; omega), m1]
    · obtain ⟨m1, m2, m3⟩ := view_marked (f := fresh1) hI
      rw [putH_far _ _ (fun x hx e => by have := (hI.mem hx).1.1; omega), m1, h2]

theorem homes_more (S : DS) (l : List (Int × List Int)) : (homesS S l).2.writes ≤ S.writes + l.length := by
  rw [← putS_homes]
  have := (putS_more (atHomes S.P l) S).1
  simpa [atHomes] using this
theorem open_more (S : DS) : (openS S).2.2.writes ≤ S.writes + 32767 ∧ (openS S).2.2.n = S.n := by
  unfold openS
  split
  · exact ⟨Nat.le_add_right _ _, rfl⟩
  split
  · exact ⟨Nat.le_add_right _ _, rfl⟩
  split
  · exact ⟨Nat.le_add_right _ _, rfl⟩
  · rename_i l hl
    have h1 := homes_more S l
    have h2 := (slotsOf_pages hl).2
    have h3 := P_homes l S
    split
    · exact ⟨by show (homesS S l).2.writes ≤ _; omega, h3⟩
    · exact ⟨by show (homesS S l).2.writes ≤ _; omega, h3⟩
theorem commit_more {l : List (Int × List Int)} (hn : n = S.n) (hI : Imgs n seq l) : (commitS S seq l).2.2.writes ≤ S.writes + (2 * l.length + 1) ∧ (commitS S seq l).2.2.n = S.n ∧ seq ≤ (commitS S seq l).2.1 ∧ (commitS S seq l).2.1 ≤ seq + 1 := by
  have hP : S.P = pagesOf n := by unfold DS.P; rw [hn]
  have hfew := hI.few
  have h4 := (pagesOf_nn n).2.2
  have h0 := hI.seq0
  have h1 := hI.seq1
  have hright : rightS S l := ⟨fun x hx => by rw [hP]; exact hI.page x hx, hI.once⟩
  have he : rightE S l = 0 := by unfold rightE; rw [if_neg (by rw [hP]; omega), if_pos hright]
  have hsec : secR l.length (seq + 1) = true := decide_eq_true ⟨by omega, by omega, by omega, by omega⟩
  by_cases hne : l = []
  · subst hne
    rw [commit_nil]
    exact ⟨Nat.le_add_right _ _, rfl, Int.le_refl _, by show seq ≤ seq + 1; omega⟩
  rw [commitS_is he hne]
  have p1 := putS_more (atSlots 0 (packs (seq + 1) l)) S
  rw [atSlots_length, packs_length] at p1
  unfold commitP
  split
  · exact ⟨by show (putS S _).2.writes ≤ _; omega, p1.2, Int.le_refl _, by show seq ≤ seq + 1; omega⟩
  generalize (putS S (atSlots 0 (packs (seq + 1) l))).2 = S3 at p1 ⊢
  have p2 := putS_more [(0, secL l.length (seq + 1) zpage)] S3
  rw [mark_put _ hsec] at p2
  have p2' : (markS S3 l.length (seq + 1)).2.writes ≤ S3.writes + 1 := p2.1
  unfold commitM
  split
  · exact ⟨by show (markS S3 _ _).2.writes ≤ _; omega, p2.2.trans p1.2, Int.le_refl _, by show seq ≤ seq + 1; omega⟩
  have p3 := homes_more (markS S3 l.length (seq + 1)).2 (packs (seq + 1) l)
  rw [packs_length] at p3
  exact ⟨by show (homesS _ _).2.writes ≤ _; omega, (P_homes _ _).trans (p2.2.trans p1.2), by show seq ≤ seq + 1; omega, Int.le_refl _⟩
end

end Go.Proofs.YtkpmfobmlaldfaaDoor

/-
  Contracts of the program's pager's New and Commit. Conditions: those of the log's.
-/
namespace Go.Proofs.YtkpmfobmlaldfaaDoor
open Go.RowKit
set_option maxRecDepth 100000
set_option linter.unusedVariables false

section
variable {D : World → (Nat → Prop) → Addr → DS → Prop} {w w' : World} {F O : Nat → Prop} {p : Addr} {S : DS} {q r b : Nat} {seq : Int} {L : List (Int × List Int)}

/-- The blocks of a new pager. -/
def pgO (F : Nat → Prop) (q r b : Nat) (k : Nat) : Prop := F k ∨ k = q ∨ k = r ∨ k = b
set_option maxHeartbeats 400000 in
theorem pnew_any (api : DiskApi D) (hd : D w F p S) (hq : PLog w q p seq) (hqF : ¬ F q) (hp : 0 < pagesOf S.n) : Calls Tryd.prog 16 #[.pointer (some ⟨q, 0, none⟩)] w fun e w' => ∃ r b, e = .returned (.tuple #[.pointer (some ⟨r, 0, none⟩), .int .i64 0]) ∧ w.heap.size ≤ r ∧ w.heap.size ≤ b ∧ PgAt D w' F (pgO F q r b) p S q seq r b [] ∧ Below w.heap.size w w' := by
  have HP := Lib.hid (pages_same api hd hq)
  have hlt := api.lt _ _ _ _ hd
  have hql := hq.cells.2.2.2
  have k1 : (pagesOf S.n == 0) = false := by simp; omega
  have hX : Below w.heap.size w ((w.alloc (.map #[] 0)).alloc (.cells #[.pointer (some ⟨q, 0, none⟩), .map (some w.heap.size)] 91)) := ((Below.refl _ _).alloc (Nat.le_refl _) _).alloc (by simp) _
  have hblk : ((w.alloc (.map #[] 0)).alloc (.cells #[.pointer (some ⟨q, 0, none⟩), .map (some w.heap.size)] 91)).heap[w.heap.size + 1]? = some (.cells #[.pointer (some ⟨q, 0, none⟩), .map (some w.heap.size)] 91 (0, 0)) := by
    have := heap_alloc_new (w.alloc (.map #[] 0)) (.cells #[.pointer (some ⟨q, 0, none⟩), .map (some w.heap.size)] 91)
    simpa using this
  have hm : IMap ((w.alloc (.map #[] 0)).alloc (.cells #[.pointer (some ⟨q, 0, none⟩), .map (some w.heap.size)] 91)) w.heap.size 0 (fun _ => none) := (IMap.made w).of_block (heap_alloc_old _ _ (by simp))
  have hsX : ((w.alloc (.map #[] 0)).alloc (.cells #[.pointer (some ⟨q, 0, none⟩), .map (some w.heap.size)] 91)).heap.size = w.heap.size + 2 := by simp
  have HE := Lib.hid (show PgAt D ((w.alloc (.map #[] 0)).alloc (.cells #[.pointer (some ⟨q, 0, none⟩), .map (some w.heap.size)] 91)) F (pgO F q (w.heap.size + 1) w.heap.size) p S q seq (w.heap.size + 1) w.heap.size [] from
    ⟨api.below hd hX, hq.below hX, hblk, hqF, fun hf => by have := hlt _ hf; omega, fun hf => by have := hlt _ hf; omega, by omega, fun k hk => hk, fun k hk => by
      rw [hsX]
      rcases hk with a | a | a | a
      · have := hlt k a; omega
      · omega
      · omega
      · omega, ⟨_, hm, fun i => ⟨fun _ => rfl, fun l hl => by cases hl⟩⟩, List.Pairwise.nil, fun x hx => by cases hx⟩)
  have HX := Lib.hid hX
  have hmk := @run_makeMap Tryd.prog
  clear hd hq hX hblk hm hsX
  go_enter Tryd.func16, Tryd.ntmps16
  go_wp2_with fail
  refine HP.out.mono ?_
  rintro e w1 ⟨rfl, hw⟩
  have hw := hw.symm
  subst hw
  go_wp2
  go_ret2
  exact ⟨w.heap.size + 1, w.heap.size, rfl, Nat.le_succ _, Nat.le_refl _, HE.out, HX.out⟩

theorem imgs_of (h : Rising L) (h2 : AllSet S L) (hs : 0 ≤ seq ∧ seq < 4611686018427387904) : Imgs S.n seq L :=
  ⟨fun x hx => ⟨(h2 x hx).1, (h2 x hx).2.1, (h2 x hx).2.2.1⟩, fun x hx => (h2 x hx).2.2.2, h.nodup, few_set h h2, hs.1, hs.2⟩
theorem commit_n (h : Rising L) (h2 : AllSet S L) (hs : 0 ≤ seq ∧ seq < 4611686018427387904) : (commitS S seq L).2.2.n = S.n := (commit_more (n := S.n) rfl (imgs_of h h2 hs)).2.1

/-- The log has committed; what was set stands still. -/
theorem PgAt.committed (api : DiskApi D) (h : PgAt D w F O p S q seq r b L) {F' : Nat → Prop} {S' : DS} {seq' : Int} (hn : S'.n = S.n) (hd : D w' F' p S') (hl : PLog w' q p seq') (hqF : ¬ F' q) (ht : Touch (orAt F q) w w') (hF : ∀ k, F' k → F k ∨ w.heap.size ≤ k) : PgAt D w' F' (fun k => O k ∨ F' k) p S' q seq' r b L := by
  have hrl := h.cells.2.2
  obtain ⟨f, hf, hset⟩ := id h.set
  have hbl := hf.lt
  have hbq : b ≠ q := fun e => by
    obtain ⟨es, c, e2⟩ := hf.block
    have := h.log
    unfold PLog at this
    rw [← e, e2] at this
    cases this
  have hP : S'.P = S.P := by unfold DS.P; rw [hn]
  refine ⟨hd, hl, (ht.block r hrl (fun a => a.elim h.rF h.rq)).trans h.me, hqF, fun a => ?_, fun a => ?_, h.rq, fun k hk => ?_, fun k hk => ?_, h.set.keep ht.size (ht.block b hbl (fun a => a.elim h.bF hbq)) (fun g hg _ hx => ht.block g hg (fun a => a.elim (fun a => hx (.inl a)) (fun a => hx (.inr (.inl a))))) (fun g hg _ hx a => ?_) (fun g ho => .inl ho), h.up, fun x hx => by rw [hP]; exact h.all x hx⟩
  · rcases hF r a with a | a
    · exact h.rF a
    · omega
  · rcases hF b a with a | a
    · exact h.bF a
    · omega
  · rcases hk with a | a
    · exact .inr a
    · exact .inl (h.own k (.inr a))
  · rcases hk with a | a
    · exact Nat.lt_of_lt_of_le (h.lt k a) ht.size
    · exact api.lt _ _ _ _ hd k a
  · rcases a with a | a
    · rcases hF g a with a | a
      · exact hx (.inl a)
      · omega
    · exact hx (.inr a)

/-- A Commit's end. -/
def PgDone (D : World → (Nat → Prop) → Addr → DS → Prop) (w : World) (F O : Nat → Prop) (p : Addr) (S : DS) (q : Nat) (seq : Int) (r b : Nat) (L : List (Int × List Int)) (w' : World) : Prop :=
  ∃ F' O', PgAt D w' F' O' p (commitS S seq L).2.2 q (commitS S seq L).2.1 r b (leftPg S seq L) ∧ Touch O w w' ∧ (∀ k, F' k → F k ∨ w.heap.size ≤ k) ∧ ∀ k, O' k → O k ∨ w.heap.size ≤ k

end

end Go.Proofs.YtkpmfobmlaldfaaDoor

/-
  append of one int, and of one slice, as a step of a region that draws. Condition: fewer than 2^42 elements.
-/
namespace Go.Proofs.YtkpmfobmlaldfaaDoor
open Go.RowKit
set_option maxRecDepth 100000
set_option linter.unusedVariables false

theorem step_append_int1 {w : World} {ops : Array Oper} {o : Oper} {a : Act} {K : Act → World → Prop} {Q : Exit → Act → World → Prop} {E : Prop} (hgd : o.guard = none) (s x : Operand)
    (ho : o.op = .call { callee := .builtin .append, args := #[s, x], argTypes := #[22, 22] })
    (base : Nat) (v : Value) (n : Nat) (xs : List Value) (hs : a.eval s = v) (b : Nat) (z : Int) (T : TypeId) (hx : a.eval x = .slice (some ⟨b, 0, none⟩) 1 1)
    (hown : w.ownsRow base 3 1 v n xs) (hb : w.heap[b]? = some (.cells #[.int .i64 z] T)) (h63 : n ≤ 8796093022207) (hbase : base ≤ w.heap.size)
    (h : ∀ g c' w', w'.ownsRow base 3 1 (.slice (some ⟨g, 0, none⟩) (n + 1) c') (n + 1) (xs ++ [.int .i64 z]) → w.grownBy w' v.ownBlock → ((Value.slice (some ⟨g, 0, none⟩) (n + 1) c').ownBlock = v.ownBlock ∨ ∃ r, (Value.slice (some ⟨g, 0, none⟩) (n + 1) c').ownBlock = some r ∧ w.heap.size ≤ r) → K (a.put o.dst (.slice (some ⟨g, 0, none⟩) (n + 1) c')) w') :
    if Region.wanted o (yielded ops a.tmps) = true then Oper.wp Tryd.prog o a w K Q else E := by
  obtain ⟨i0, hi, hz0, hz1, hz2⟩ := info_parts info_int
  refine step_append_lies w hgd s x 22 ho base 3 i0 (.int .i64 0) 1 8 Tryd.underlying22 hi hz0 hz1 hz2 rfl (by decide) v n xs hs hown ⟨b, 0, none⟩ 1 1 [.int .i64 z] hx rfl (World.news_of_block (cs := #[.int .i64 z]) hb) (fun u hu => by obtain rfl := List.mem_singleton.1 hu; rfl) (by decide) (by unfold maxLen; omega) (by omega) hbase w.heap.size rfl ?_
  intro g cap w' h1 h2 h3 _
  refine h g cap w' h1 h2 ?_
  rcases h3 with e | e
  · exact .inl e.symm
  · exact .inr ⟨g, rfl, by omega⟩
theorem step_append_slice1 {w : World} {ops : Array Oper} {o : Oper} {a : Act} {K : Act → World → Prop} {Q : Exit → Act → World → Prop} {E : Prop} (hgd : o.guard = none) (s x : Operand)
    (ho : o.op = .call { callee := .builtin .append, args := #[s, x], argTypes := #[96, 96] })
    (base : Nat) (v : Value) (n : Nat) (xs : List Value) (hs : a.eval s = v) (b : Nat) (A : Option Addr) (k c : Nat) (T : TypeId) (hx : a.eval x = .slice (some ⟨b, 0, none⟩) 1 1)
    (hown : w.ownsRow base 69 1 v n xs) (hb : w.heap[b]? = some (.cells #[.slice A k c] T)) (h63 : n ≤ 4398046511103) (hbase : base ≤ w.heap.size)
    (h : ∀ g c' w', w'.ownsRow base 69 1 (.slice (some ⟨g, 0, none⟩) (n + 1) c') (n + 1) (xs ++ [.slice A k c]) → w.grownBy w' v.ownBlock → ((Value.slice (some ⟨g, 0, none⟩) (n + 1) c').ownBlock = v.ownBlock ∨ ∃ r, (Value.slice (some ⟨g, 0, none⟩) (n + 1) c').ownBlock = some r ∧ w.heap.size ≤ r) → K (a.put o.dst (.slice (some ⟨g, 0, none⟩) (n + 1) c')) w') :
    if Region.wanted o (yielded ops a.tmps) = true then Oper.wp Tryd.prog o a w K Q else E := by
  obtain ⟨i0, hi, hz0, hz1, hz2⟩ := info_parts info_slice
  refine step_append_lies w hgd s x 96 ho base 69 i0 (.slice none 0 0) 1 24 Tryd.underlying96 hi hz0 hz1 hz2 rfl (by decide) v n xs hs hown ⟨b, 0, none⟩ 1 1 [.slice A k c] hx rfl (World.news_of_block (cs := #[.slice A k c]) hb) (fun u hu => by obtain rfl := List.mem_singleton.1 hu; rfl) (by decide) (by unfold maxLen; omega) (by omega) hbase w.heap.size rfl ?_
  intro g cap w' h1 h2 h3 _
  refine h g cap w' h1 h2 ?_
  rcases h3 with e | e
  · exact .inl e.symm
  · exact .inr ⟨g, rfl, by omega⟩

end Go.Proofs.YtkpmfobmlaldfaaDoor

/-
  Contract of the plain log's Commit, over the plain disk. Conditions: at most 65,536 images of bytes; a seq from 0 to 2^62 - 1; fewer than 2^63 - 1 writes.
-/
namespace Go.Proofs.YtkpmfobmlaldfaaDoor
open Go.RowKit
set_option maxRecDepth 100000
set_option linter.unusedVariables false

theorem slotsS_cons (S : DS) (i : Int) (y : Int × List Int) (r : List (Int × List Int)) : slotsS S i (y :: r) = thenS (S.wr (i + 1) y.2) (fun S' => slotsS S' (i + 1) r) := by
  obtain ⟨p, b⟩ := y
  rfl

section
variable {w : World} {G : Nat → Prop} {x : Addr} {S : DS} {q : Nat} {seq : Int} {l : List (Int × List Int)}

/-! what commitS is, arm by arm -/
theorem commitS_full (h : (l.length : Int) > S.P) : commitS S seq l = (6, seq, S) := by unfold commitS; rw [if_pos h]
theorem commitS_wrong (h : ¬ (l.length : Int) > S.P) (h2 : ¬ rightS S l) : commitS S seq l = (1, seq, S) := by unfold commitS; rw [if_neg h, if_pos h2]
theorem commitS_none (h : ¬ (l.length : Int) > S.P) (h2 : rightS S l) (h3 : l = []) : commitS S seq l = (0, seq, S) := by unfold commitS; rw [if_neg h, if_neg (fun h' => h' h2), if_pos h3]
/-- What comes behind the slots. -/
def commitB (S : DS) (seq : Int) (l : List (Int × List Int)) (a : Int × DS) : Int × Int × DS :=
  if a.1 ≠ 0 then (a.1, seq, a.2) else
  if (markS a.2 l.length (seq + 1)).1 ≠ 0 then ((markS a.2 l.length (seq + 1)).1, seq, (markS a.2 l.length (seq + 1)).2) else
  ((homesS (markS a.2 l.length (seq + 1)).2 (packs (seq + 1) l)).1, seq + 1, (homesS (markS a.2 l.length (seq + 1)).2 (packs (seq + 1) l)).2)
theorem commitS_some (h : ¬ (l.length : Int) > S.P) (h2 : rightS S l) (h3 : l ≠ []) : commitS S seq l = commitB S seq l (thenS (slotsS S 0 (packs (seq + 1) l)) DS.fl) := by
  unfold commitS
  rw [if_neg h, if_neg (fun h' => h' h2), if_neg h3]
  rfl

/-- What Commit leaves: the disk, and the log with its seq. -/
def Committed (w : World) (G : Nat → Prop) (x : Addr) (q : Nat) (r : Int × Int × DS) (w' : World) : Prop :=
  ∃ G', RefAt w' G' x r.2.2 ∧ RLog w' q x r.2.1 ∧ ¬ G' q ∧ Touch (fun k => G k ∨ k = q) w w' ∧ ∀ k, G' k → G k ∨ w.heap.size ≤ k

theorem Committed.of {w' : World} {S' : DS} (hq : RLog w q x seq) (hqG : ¬ G q) (h : Wrote w G x S' w') {e : Int} : Committed w G x q (e, seq, S') w' := by
  obtain ⟨G', h1, h2, h3⟩ := h
  have hlt := hq.cells.2.2.2
  refine ⟨G', h1, hq.keep (h2.block q hlt hqG), fun hf => ?_, ⟨h2.os, h2.tape, h2.output, h2.size, fun k hk hF => h2.block k hk (fun hg => hF (.inl hg))⟩, h3⟩
  rcases h3 q hf with a | a
  · exact hqG a
  · omega

theorem putS_more' (l : List (Int × List Int)) : ∀ S : DS, (putS S l).2.writes ≤ S.writes + l.length ∧ (putS S l).2.n = S.n := by
  induction l with
  | nil =>
    intro S
    refine ⟨?_, P_flush S⟩
    show S.flush.writes ≤ _
    unfold DS.flush
    split <;> simp
  | cons y r ih =>
    intro S
    rw [putS_cons]
    have h1 := write_more S y.1 y.2
    by_cases h : (S.wr y.1 y.2).1 = 0
    · rw [thenS_ok h]
      have h2 := ih (S.wr y.1 y.2).2
      have e1 : (S.wr y.1 y.2).2.writes ≤ S.writes + 1 := h1.1
      have e2 : (S.wr y.1 y.2).2.n = S.n := h1.2
      rw [List.length_cons]
      exact ⟨by omega, h2.2.trans e2⟩
    · rw [thenS_no h, List.length_cons]
      exact ⟨by have : (S.wr y.1 y.2).2.writes ≤ S.writes + 1 := h1.1; omega, h1.2⟩
theorem mark_put' (S : DS) {c s : Int} (h : secR c s = true) : putS S [(0, secL c s zpage)] = markS S c s := (markS_sec S h).symm
/-- Kept over a call that writes to the disk alone. -/
theorem TwoRows.touchQ {w1 w2 : World} {G1 G2 : Nat → Prop} {base : Nat} {ov pv : Value} {l : List (Int × List Int)} (h : TwoRows w1 (orAt G1 q) base ov pv l) (ht : Touch G1 w1 w2) (hG : ∀ k, G2 k → G1 k ∨ w1.heap.size ≤ k) : TwoRows w2 (orAt G2 q) base ov pv l :=
  h.keep ht.size (fun k hk hn hf => by
    rcases hf with a | a
    · rcases hG k a with b | b
      · exact hn (.inl b)
      · omega
    · exact hn (.inr a)) (fun k hk hn => ht.block k hk (fun hf => hn (.inl hf)))
/-- Between two rounds of the slots. -/
def SlotMid (q : Nat) (w : World) (G : Nat → Prop) (x : Addr) (S : DS) (ps : List (Int × List Int)) (ov pv : Value) (k : Nat) (wr : World) : Prop :=
  ∃ G' S', RefAt wr G' x S' ∧ Touch G w wr ∧ (∀ j, G' j → G j ∨ w.heap.size ≤ j) ∧ slotsS S 0 ps = slotsS S' k (ps.drop k) ∧ TwoRows wr (orAt G' q) w.heap.size ov pv (ps.take k) ∧ S'.n = S.n ∧ S'.writes ≤ S.writes + k

/-- A round of the slots: both lists have one more. -/
theorem SlotMid.put {w4 Xa w1 Xb w2 : World} {G2 : Nat → Prop} {S2 : DS} {ps : List (Int × List Int)} {k : Nat} {ov pv ov' pv' : Value} {p : Int} {b : List Int} {g c : Nat} {vs : List Value} (hql : q < w.heap.size)
    (hR : RefAt w4 G2 x S2) (hT : Touch G w w4) (hG : ∀ j, G2 j → G j ∨ w.heap.size ≤ j) (he : slotsS S 0 ps = slotsS S2 ((k : Int) + 1) (ps.drop (k + 1))) (hy : ps[k]? = some (p, b)) (hn : S2.n = S.n) (hw : S2.writes ≤ S.writes + (k + 1))
    (h : TwoRows w4 (orAt G2 q) w.heap.size ov pv (ps.take k)) (hk : (ps.take k).length = k) (hap : Apart w4 (orAt G2 q) ov pv (.slice (some ⟨g, 0, none⟩) 256 c) b) (hvs : w4.ownsRow w.heap.size 69 1 ov k vs) (hvl : ∀ (i : Nat) (x : Int × List Int), (ps.take k)[i]? = some x → ∃ u, vs[i]? = some u ∧ Apart w4 (orAt G2 q) ov pv u x.2)
    (hXa : Below w4.heap.size w4 Xa) (hown1 : w1.ownsRow w.heap.size 69 1 ov' (k + 1) (vs ++ [.slice (some ⟨g, 0, none⟩) 256 c])) (hg1 : Xa.grownBy w1 ov.ownBlock) (hl1 : ov'.ownBlock = ov.ownBlock ∨ ∃ r, ov'.ownBlock = some r ∧ Xa.heap.size ≤ r)
    (hXb : Below w1.heap.size w1 Xb) (hown2 : w2.ownsRow w.heap.size 3 1 pv' (k + 1) (((ps.take k).map (·.1)).map (Value.int .i64) ++ [Value.int .i64 p])) (hg2 : Xb.grownBy w2 pv.ownBlock) (hl2 : pv'.ownBlock = pv.ownBlock ∨ ∃ r, pv'.ownBlock = some r ∧ Xb.heap.size ≤ r) :
    SlotMid q w G x S ps ov' pv' (k + 1) w2 := by
  obtain ⟨hrw, hsz, hall⟩ := h.push2 (p := p) (ov' := ov') (pv' := pv') (fun k hk => by
    rcases hk with a | a
    · exact hR.lt k a
    · have := hT.size; omega) hap (by rw [hk]; exact hvs) hvl hXa (by rw [hk]; exact hown1) hg1 (hl1.imp id (fun ⟨r, a, b⟩ => ⟨r, a, Nat.le_trans hXa.size b⟩)) hXb (by rw [hk, List.map_append]; exact hown2) hg2 (hl2.imp id (fun ⟨r, a, b⟩ => ⟨r, a, Nat.le_trans hXb.size b⟩))
  refine ⟨G2, S2, hR.keep (fun j hj => hall j (hR.lt j hj) (fun e => h.og j e (.inl hj)) (fun e => h.pg j e (.inl hj))), ⟨hg2.os.trans (hXb.os.trans (hg1.os.trans (hXa.os.trans hT.os))), hg2.tape.trans (hXb.tape.trans (hg1.tape.trans (hXa.tape.trans hT.tape))), hg2.output.trans (hXb.output.trans (hg1.output.trans (hXa.output.trans hT.output))), Nat.le_trans hT.size hsz, fun j hj hF => (hall j (Nat.lt_of_lt_of_le hj hT.size) (fun e => by have := (own_at hvs j e).1; omega) (fun e => by have := (own_at h.pages j e).1; omega)).trans (hT.block j hj hF)⟩, hG, he, ?_, hn, hw⟩
  rw [List.take_add_one, hy]
  exact hrw

theorem refPack_sl (A : Option Addr) (n c B : Nat) (l : List Int) (p s : Int) (w : World) (hr : RB w B A n l) (hB : B ≤ w.heap.size) (hn : n = 240) (hs : secR p s = true) :
    Calls Tryd.prog 66 #[.int .i64 p, .int .i64 s, .slice A n c] w fun e w' => ∃ g cg, e = .returned (.tuple #[.slice (some ⟨g, 0, none⟩) 256 cg, .int .i64 0]) ∧ 256 ≤ cg ∧ w.heap.size ≤ g ∧ RB w' w'.heap.size (some ⟨g, 0, none⟩) 256 (secL p s l) ∧ Below w.heap.size w w' := by
  refine (refPack_yes A n c B l p s w hr hB hn hs).mono ?_
  rintro e w' ⟨v, rfl, hown, hb⟩
  obtain ⟨g, cg, rfl, hc, hg⟩ := own_some hown (by decide)
  exact ⟨g, cg, rfl, hc, hg, RB.of_own hown (secL_bytes p s hr.bytes), hb⟩

theorem SlotMid.start {ps : List (Int × List Int)} (h : RefAt w G x S) : SlotMid q w G x S ps (.slice none 0 0) (.slice none 0 0) 0 w :=
  ⟨G, S, h, Touch.refl _ _, fun j hj => .inl hj, rfl, TwoRows.start _ _ _, rfl, Nat.le_refl _⟩

end

end Go.Proofs.YtkpmfobmlaldfaaDoor

/-
  The plain pager in memory, apart from the program's; both in a law. Condition: the table that crc.Step reads holds what the program's text lays in it when the law begins.
-/
namespace Go.Proofs.YtkpmfobmlaldfaaDoor
open Go.RowKit
set_option maxRecDepth 100000
set_option linter.unusedVariables false

/-- In a law that began in w0: the program's pager, in blocks of the law's own. -/
structure LawP (D : World → (Nat → Prop) → Addr → DS → Prop) (w0 w : World) (F O : Nat → Prop) (p : Addr) (S : DS) (q : Nat) (seq : Int) (r b : Nat) (L : List (Int × List Int)) : Prop where
  pg : PgAt D w F O p S q seq r b L
  out : ∀ k, O k → w0.heap.size ≤ k
  bel : Below w0.heap.size w0 w
  tab : Tab w0 ∧ 0 < w0.heap.size

def rpX (G : Nat → Prop) (q' xr : Nat) (Z : Nat → Prop) (k : Nat) : Prop := G k ∨ k = q' ∨ k = xr ∨ Z k
/-- The plain pager at xr: of the plain log at q', its list in a slice v; apart from the blocks Z. -/
structure RPg (w : World) (G Z : Nat → Prop) (base : Nat) (xa : Addr) (T : DS) (q' : Nat) (t : Int) (xr : Nat) (v : Value) (M : List (Int × List Int)) : Prop where
  ref : RefAt w G xa T
  log : RLog w q' xa t
  qG : ¬ G q'
  me : w.heap[xr]? = some (.cells #[.pointer (some ⟨q', 0, none⟩), v] 63 (0, 0))
  xG : ¬ G xr
  xq : xr ≠ q'
  row : PRow 107 240 w (rpX G q' xr Z) base v M
  nil_ : M = [] → v = .slice none 0 0
/-- Both. -/
structure TwoPg (D : World → (Nat → Prop) → Addr → DS → Prop) (w0 w : World) (F O G : Nat → Prop) (p xa : Addr) (S T : DS) (q q' : Nat) (s t : Int) (r b xr : Nat) (v : Value) (L M : List (Int × List Int)) : Prop extends LawP D w0 w F O p S q s r b L where
  R : RPg w G O w0.heap.size xa T q' t xr v M
  gout : ∀ k, G k → w0.heap.size ≤ k
  r0 : w0.heap.size ≤ q'
  x0 : w0.heap.size ≤ xr
  apart : ∀ k, O k → ¬ (G k ∨ k = q' ∨ k = xr)

section
variable {D : World → (Nat → Prop) → Addr → DS → Prop} {w0 w w' : World} {F F' O O' G Z : Nat → Prop} {p xa : Addr} {S S' T : DS} {q q' r b xr base : Nat} {s s' t : Int} {v : Value} {L L' M : List (Int × List Int)}

theorem LawP.tabF (h : LawP D w0 w F O p S q s r b L) : TabF w F := ⟨h.tab.1.below h.bel h.tab.2, Nat.lt_of_lt_of_le h.tab.2 h.bel.size, fun hf => by have := h.out _ (h.pg.own _ (.inl hf)); have := h.tab.2; omega⟩
theorem LawP.later (api : DiskApi D) (h : LawP D w0 w F O p S q s r b L) (hb : Below w.heap.size w w') : LawP D w0 w' F O p S q s r b L := ⟨h.pg.below api hb, h.out, h.bel.trans (hb.mono h.bel.size), h.tab⟩
theorem LawP.next (h : LawP D w0 w F O p S q s r b L) (hp : PgAt D w' F' O' p S' q s' r b L') (ht : Touch O w w') (hO : ∀ k, O' k → O k ∨ w.heap.size ≤ k) : LawP D w0 w' F' O' p S' q s' r b L' :=
  ⟨hp, fun k hk => by
    rcases hO k hk with a | a
    · exact h.out k a
    · exact Nat.le_trans h.bel.size a, h.bel.trans (ht.below h.out h.bel.size), h.tab⟩

theorem RPg.cells (h : RPg w G Z base xa T q' t xr v M) : w.cell? ⟨xr, 0, none⟩ = some (.pointer (some ⟨q', 0, none⟩)) ∧ w.cell? ⟨xr, 1, none⟩ = some v ∧ w.frozen? ⟨xr, 1, none⟩ = false ∧ xr < w.heap.size := by
  refine ⟨?_, ?_, ?_, (Array.getElem?_eq_some_iff.1 h.me).1⟩
  · rw [cell_of_row w xr 0 _ _ (0, 0) h.me]; rfl
  · rw [cell_of_row w xr 1 _ _ (0, 0) h.me]; rfl
  · simp [World.frozen?, h.me]
/-- The others' blocks alone were written. -/
theorem RPg.far (h : RPg w G Z base xa T q' t xr v M) (hZ : ∀ k, Z k → ¬ (G k ∨ k = q' ∨ k = xr)) {Z' : Nat → Prop} (ht : Touch Z w w') (hn : ∀ k, Z' k → Z k ∨ w.heap.size ≤ k) : RPg w' G Z' base xa T q' t xr v M := by
  have hql := h.log.cells.2.2.2
  have hxl := h.cells.2.2.2
  refine ⟨h.ref.keep (fun k hk => ht.block k (h.ref.lt k hk) (fun a => hZ k a (.inl hk))), h.log.keep (ht.block q' hql (fun a => hZ q' a (.inr (.inl rfl)))), h.qG, (ht.block xr hxl (fun a => hZ xr a (.inr (.inr rfl)))).trans h.me, h.xG, h.xq, h.row.keep (by decide) ht.size (fun k hk hx hx' => hx ?_) (fun k hk hx => ht.block k hk (fun a => hx (.inr (.inr (.inr a))))), h.nil_⟩
  rcases hx' with a | a | a | a
  · exact .inl a
  · exact .inr (.inl a)
  · exact .inr (.inr (.inl a))
  · rcases hn k a with a | a
    · exact .inr (.inr (.inr a))
    · omega
theorem RPg.below (h : RPg w G Z base xa T q' t xr v M) (hb : Below w.heap.size w w') : RPg w' G Z base xa T q' t xr v M :=
  ⟨h.ref.keep (fun k hk => hb.block k (h.ref.lt k hk)), h.log.keep (hb.block q' h.log.cells.2.2.2), h.qG, (hb.block xr h.cells.2.2.2).trans h.me, h.xG, h.xq, h.row.below (by decide) hb, h.nil_⟩
theorem TwoPg.later (api : DiskApi D) (h : TwoPg D w0 w F O G p xa S T q q' s t r b xr v L M) (hb : Below w.heap.size w w') : TwoPg D w0 w' F O G p xa S T q q' s t r b xr v L M :=
  ⟨h.toLawP.later api hb, h.R.below hb, h.gout, h.r0, h.x0, h.apart⟩
/-- The program's pager did something. -/
theorem TwoPg.nextP (h : TwoPg D w0 w F O G p xa S T q q' s t r b xr v L M) (hp : PgAt D w' F' O' p S' q s' r b L') (ht : Touch O w w') (hO : ∀ k, O' k → O k ∨ w.heap.size ≤ k) : TwoPg D w0 w' F' O' G p xa S' T q q' s' t r b xr v L' M := by
  refine ⟨h.toLawP.next hp ht hO, h.R.far h.apart ht hO, h.gout, h.r0, h.x0, fun k hk hx => ?_⟩
  rcases hO k hk with a | a
  · exact h.apart k a hx
  · rcases hx with e | e | e
    · have := h.R.ref.lt k e; omega
    · have := h.R.log.cells.2.2.2; omega
    · have := h.R.cells.2.2.2; omega
/-- The blocks that the plain pager may write. -/
def rpY (G : Nat → Prop) (q' xr : Nat) (v : Value) (k : Nat) : Prop := G k ∨ k = q' ∨ k = xr ∨ v.ownBlock = some k
/-- The plain pager did something. -/
theorem TwoPg.nextR (api : DiskApi D) (h : TwoPg D w0 w F O G p xa S T q q' s t r b xr v L M) {G' : Nat → Prop} {T' : DS} {t' : Int} {v' : Value} {M' : List (Int × List Int)} (hR : RPg w' G' O w0.heap.size xa T' q' t' xr v' M') (ht : Touch (rpY G q' xr v) w w') (hG : ∀ k, G' k → G k ∨ w.heap.size ≤ k) : TwoPg D w0 w' F O G' p xa S T' q q' s t' r b xr v' L M' := by
  have hno : ∀ k, O k → ¬ rpY G q' xr v k := fun k hk hy => by
    rcases hy with a | a | a | a
    · exact h.apart k hk (.inl a)
    · exact h.apart k hk (.inr (.inl a))
    · exact h.apart k hk (.inr (.inr a))
    · exact h.R.row.out k a (.inr (.inr (.inr hk)))
  have hlow : ∀ k, rpY G q' xr v k → w0.heap.size ≤ k := fun k hy => by
    rcases hy with a | a | a | a
    · exact h.gout k a
    · have := h.r0; omega
    · have := h.x0; omega
    · obtain ⟨vs, hv, _⟩ := h.R.row.row
      exact (own_at hv k a).1
  refine ⟨⟨h.pg.keep api ht.size (fun k hk => ht.block k (h.pg.lt k hk) (hno k hk)), h.out, h.bel.trans (ht.below hlow h.bel.size), h.tab⟩, hR, fun k hk => ?_, h.r0, h.x0, fun k hk hx => ?_⟩
  · rcases hG k hk with a | a
    · exact h.gout k a
    · exact Nat.le_trans h.bel.size a
  · rcases hx with a | a
    · rcases hG k a with a | a
      · exact h.apart k hk (.inl a)
      · have := h.pg.lt k hk; omega
    · exact h.apart k hk (.inr a)
end

/-- The disk of a law when it begins: made, formatted, opened. -/
def S0 (n : Nat) : DS := (openS (markS (DS.new n) 0 1).2).2.2

section
variable {D : World → (Nat → Prop) → Addr → DS → Prop}
end

end Go.Proofs.YtkpmfobmlaldfaaDoor

/-
  Contracts of the plain pager's Get and Changed. No condition beyond where it lies.
-/
namespace Go.Proofs.YtkpmfobmlaldfaaDoor
open Go.RowKit
set_option maxRecDepth 100000
set_option linter.unusedVariables false

theorem atL_first {i : Int} : ∀ {M : List (Int × List Int)} {k : Nat} {y : Int × List Int}, (∀ t z, t < k → M[t]? = some z → z.1 ≠ i) → M[k]? = some y → y.1 = i → atL M i = some y.2
  | [], k, y, _, hk, _ => by simp at hk
  | (j, l) :: r, 0, y, _, hk, hy => by
    simp at hk
    subst hk
    unfold atL
    simp only at hy
    rw [if_pos hy]
  | (j, l) :: r, k + 1, y, hn, hk, hy => by
    have h0 : j ≠ i := hn 0 (j, l) (Nat.succ_pos _) rfl
    unfold atL
    rw [if_neg h0]
    exact atL_first (fun t z ht hz => hn (t + 1) z (Nat.succ_lt_succ ht) (by simpa using hz)) (by simpa using hk) hy
theorem atL_all {i : Int} {M : List (Int × List Int)} (h : ∀ t z, t < M.length → M[t]? = some z → z.1 ≠ i) : atL M i = none :=
  atL_none fun x hx => by
    obtain ⟨t, ht, e⟩ := List.getElem_of_mem hx
    exact h t x ht (by rw [List.getElem?_eq_getElem ht, e])

section
variable {w w' : World} {G Z : Nat → Prop} {xa : Addr} {T : DS} {q' xr base : Nat} {t : Int} {v : Value} {M : List (Int × List Int)}

set_option maxHeartbeats 3200000 in
theorem rpget_any (h : RPg w G Z base xa T q' t xr v M) (hM : M.length ≤ 65536) (hall : ∀ y ∈ M, y.2.length = 240) (i : Int) :
    Calls Tryd.prog 28 #[.pointer (some ⟨xr, 0, none⟩), .int .i64 i] w fun e w' => ∃ A n c, e = .returned (.tuple #[.slice A n c, .int .i64 (getPg T M i).2]) ∧ n ≤ c ∧ RB w' w'.heap.size A n (getPg T M i).1 ∧ Below w.heap.size w w' := by
  obtain ⟨A, c, rfl, hc, hl⟩ := h.row.imgs (by decide)
  obtain ⟨m0, m1, _, hxl⟩ := h.cells
  have HLD := Lib.hid (refLoad_any h.ref h.log i)
  have HL := Lib.hid hl
  have hn63 : M.length ≤ 9223372036854775807 := by omega
  generalize hN : M.length = N at *
  have HN := Lib.hid hN
  clear h hl hN
  go_enter Tryd.func28, Tryd.ntmps28
  go_wp2
  go_loop [6] (fun x => ∃ k : Nat, k ≤ N ∧ x = .int .i64 k ∧ Hid (∀ t z, t < k → M[t]? = some z → z.1 ≠ i)) (fun x => N - (intOf x).toNat)
  case atStart => exact ⟨0, Nat.zero_le _, rfl, Lib.hid (fun t z ht => absurd ht (by omega))⟩
  case round =>
    obtain ⟨k, hk, rfl, hbef⟩ := hrel
    by_cases hlt : k < N
    · have hlt' : (k : Int) < (N : Int) := by omega
      obtain ⟨y, hy⟩ : ∃ y, M[k]? = some y := ⟨_, List.getElem?_eq_getElem (by rw [HN.out]; exact hlt)⟩
      obtain ⟨b, rfl, _, hbl, hat⟩ := HL.out.2 (by omega)
      obtain ⟨c1, D, m, cm, c2, hmc, hm63, hrb, _⟩ := hat k y hy
      have HY := Lib.hid hy
      have HRB := Lib.hid hrb
      obtain ⟨p, l⟩ := y
      simp only at c1
      clear hat hrb hy
      by_cases he : p = i
      · have hg : getPg T M i = (l, 0) := by
          unfold getPg
          rw [atL_first hbef.out HY.out he]
        have k1 : (p == i) = true := by simpa using he
        obtain rfl : m = 240 := by
          rw [← HRB.out.len]
          exact hall _ (List.mem_of_getElem? HY.out)
        have HG := Lib.hid hg
        clear he hg
        go_wp2_with (at_builtin; refine wpList_append_bytes rfl _ _ rfl w.heap.size (.slice none 0 0) 0 [] rfl ⟨rfl, .inl ⟨rfl, rfl⟩⟩ _ D 240 cm l rfl HRB.out (by decide) (Nat.le_refl _) ?_; intro v1 w1 hown1 hg1 hb1; have HO1 := Lib.hid hown1; have HB1 := Lib.hid hb1; clear hown1 hg1 hb1)
        go_ret2
        obtain ⟨A1, n1, rfl, hn1, hr1⟩ := read_own HO1.out HRB.out.bytes
        rw [HG.out]
        exact ⟨A1, 240, n1, rfl, hn1, hr1, HB1.out⟩
      · have k1 : (p == i) = false := by simpa using he
        have HNX := Lib.hid (show ∀ t z, t < k + 1 → M[t]? = some z → z.1 ≠ i from fun t z ht hz => by
          rcases Nat.lt_or_ge t k with a | a
          · exact hbef.out t z a hz
          · obtain rfl : t = k := by omega
            rw [HY.out] at hz
            cases hz
            exact he)
        clear he
        go_wp2
        go_round
        case rel => exact ⟨k + 1, by omega, by go_num, HNX⟩
        case measure => simp [intOf]; omega
    · obtain rfl : k = N := by omega
      have hg : getPg T M i = loadS T i := by
        unfold getPg
        rw [atL_all (by rw [HN.out]; exact hbef.out)]
      have HG := Lib.hid hg
      clear hg
      go_wp2_with fail
      refine HLD.out.mono ?_
      rintro e w1 ⟨A1, n1, c1, rfl, hc1, hr1, hb1⟩
      have HE := Lib.hid (And.intro hr1 hb1)
      clear hr1 hb1
      go_wp2
      go_ret2
      rw [HG.out]
      exact ⟨A1, n1, c1, rfl, hc1, HE.out.1, HE.out.2⟩

end

end Go.Proofs.YtkpmfobmlaldfaaDoor
