/-
  The texts PgM, Sort, PgA, RedoE, RedoLaw, PgB, PgC, RedoWP, RedoAt, PgD, StepApp, RedoRG, PgR, PgS, PgT, PgU joined. Conditions: those that each part says at its head.
-/
import Derived.Test.YtkpmfobmlaldfaaGreatDoorG1
import Derived.Test.YtkpmfobmlaldfaaGreatDoorG4
import Derived.Test.YtkpmfobmlaldfaaGreatDoorG2
import Derived.Maps.Range
import Derived.Shelf.SlIterI.Nil
import Derived.Shelf.SortM.Plain
import Derived.Shelf.SortM.SortNone
import Derived.Test.YtkpmfobmlaldfaaGreatDoorProg
import Derived.StillTailTactics
import Derived.Deep.AppendLies
import Derived.Deep.RegionLaw
import Derived.Deep.RegionHeld3
import Derived.BigRegion

/-
  A pager in memory: its log, and a map from pages to slices of bytes that reads as a rising list; what keeps it. No condition.
-/
namespace Go.Proofs.YtkpmfobmlaldfaaGreatDoor
open Go.RowKit Go.Maps
set_option maxRecDepth 100000
set_option linter.unusedVariables false

theorem nodup_sub : ∀ (l m : List Int), l.Nodup → (∀ x ∈ l, x ∈ m) → l.length ≤ m.length
  | [], m, _, _ => Nat.zero_le _
  | x :: r, m, hn, h => by
    have hn' := List.nodup_cons.1 hn
    have h1 := nodup_sub r (m.erase x) hn'.2 (fun y hy => (List.mem_erase_of_ne (fun e => hn'.1 (by rw [← e]; exact hy))).2 (h y (List.mem_cons_of_mem _ hy)))
    have h2 := List.length_erase_of_mem (h x (List.mem_cons_self ..))
    have h3 : 0 < m.length := List.length_pos_of_mem (h x (List.mem_cons_self ..))
    rw [List.length_cons]
    omega
/-- A map has no more entries than there are numbers at which something stands. -/
theorem IMap.tight {w : World} {b n : Nat} {f : Int → Option Value} (h : IMap w b n f) (ks : List Int) (hk : ∀ i, f i ≠ none → i ∈ ks) : IMap w b ks.length f := by
  obtain ⟨D, hD, hf⟩ := h
  obtain ⟨es, rfl, hne, hkey⟩ := hD.entries int_key
  have hint : ∀ p ∈ es, ∃ i : Int, p.1 = .int .i64 i := by
    obtain ⟨es', c, hb, Ft, hs, he⟩ := hD
    intro p hp
    injection he with he
    rw [he] at hp
    obtain ⟨x, hx, rfl⟩ := List.mem_map.1 (mem_sorted.1 hp)
    obtain ⟨y, hy⟩ := Ft.reads x hx
    rw [WideElems.rg_of hy]
    have h3 : keyOf Tryz.prog 3 x.key = some y.1 := WideElems.rd_key hy
    revert h3
    generalize y.1 = kl
    intro h3
    generalize x.key = key at h3
    cases key <;> simp [keyOf, Tryz.underlying3, mapKey] at h3
    obtain ⟨⟨rfl, _⟩, rfl⟩ := h3
    exact ⟨_, rfl⟩
  have hlen : es.length ≤ ks.length := by
    have hsub : ∀ i ∈ es.map (fun p => match p.1 with | .int _ i => i | _ => 0), i ∈ ks := by
      intro i hi
      obtain ⟨p, hp, rfl⟩ := List.mem_map.1 hi
      obtain ⟨i, e⟩ := hint p hp
      rw [e]
      refine hk i (fun e0 => ?_)
      have := (hf i).1
      rw [e0, Maps.has_eq] at this
      have h2 : es.any (fun p => p.1.sameKey (.int .i64 i)) = true := List.any_eq_true.2 ⟨p, hp, by rw [e]; simp [Lit.sameKey]⟩
      rw [h2] at this
      cases this
    have hnd : (es.map (fun p => match p.1 with | .int _ i => i | _ => 0)).Nodup := by
      rw [List.nodup_iff_pairwise_ne, List.pairwise_map]
      refine hne.imp_of_mem fun {p q} hp hq hpq e => hpq ?_
      obtain ⟨i, hi⟩ := hint p hp
      obtain ⟨j, hj⟩ := hint q hq
      rw [hi, hj] at e ⊢
      have : i = j := e
      rw [this]
    have := nodup_sub _ ks hnd hsub
    simpa using this
  obtain ⟨es', c, hb, Ft, hs, he⟩ := hD
  refine ⟨_, ⟨es', c, hb, Ft, ?_, he⟩, hf⟩
  injection he with he
  have : es.length = es'.size := by rw [he, length_sorted]; simp
  omega

/-- What was set, as the map at b holds it: slices apart from the blocks X, in the blocks O. -/
def PgSet (w : World) (X O : Nat → Prop) (b : Nat) (L : List (Int × List Int)) : Prop :=
  ∃ f, IMap w b L.length f ∧ ∀ i, (atL L i = none → f i = none) ∧ ∀ l, atL L i = some l → ∃ g c, f i = some (.slice (some ⟨g, 0, none⟩) 240 c) ∧ 240 ≤ c ∧ RB w w.heap.size (some ⟨g, 0, none⟩) 240 l ∧ ¬ X g ∧ O g
/-- A pager at r: of the log at q of the disk at p, its map at b; O: all blocks that it leans on. -/
structure PgAt (D : World → (Nat → Prop) → Addr → DS → Prop) (w : World) (F O : Nat → Prop) (p : Addr) (S : DS) (q : Nat) (seq : Int) (r b : Nat) (L : List (Int × List Int)) : Prop where
  d : D w F p S
  log : PLog w q p seq
  me : w.heap[r]? = some (.cells #[.pointer (some ⟨q, 0, none⟩), .map (some b)] 52 (0, 0))
  qF : ¬ F q
  rF : ¬ F r
  bF : ¬ F b
  rq : r ≠ q
  own : ∀ k, F k ∨ k = q ∨ k = r ∨ k = b → O k
  lt : ∀ k, O k → k < w.heap.size
  set : PgSet w (fun k => F k ∨ k = q ∨ k = r ∨ k = b) O b L
  up : Rising L
  all : AllSet S L

section
variable {D : World → (Nat → Prop) → Addr → DS → Prop} {w w' : World} {F O : Nat → Prop} {p : Addr} {S : DS} {q r b : Nat} {seq : Int} {L : List (Int × List Int)} {X : Nat → Prop}

theorem PgSet.keep (h : PgSet w X O b L) {X' O' : Nat → Prop} (hs : w.heap.size ≤ w'.heap.size) (hb : w'.heap[b]? = w.heap[b]?) (hk : ∀ g, g < w.heap.size → O g → ¬ X g → w'.heap[g]? = w.heap[g]?) (hX : ∀ g, g < w.heap.size → O g → ¬ X g → ¬ X' g) (hO : ∀ g, O g → O' g) : PgSet w' X' O' b L := by
  obtain ⟨f, h1, h2⟩ := h
  refine ⟨f, h1.of_block hb, fun i => ⟨(h2 i).1, fun l hl => ?_⟩⟩
  obtain ⟨g, c, e1, e2, e3, e4, e5⟩ := (h2 i).2 l hl
  have hg : g < w.heap.size := by obtain ⟨bb, _, e, hbb, _⟩ := e3.at_ (by decide); cases e; exact hbb
  exact ⟨g, c, e1, e2, e3.there (by decide) (hk g hg e5 e4) hs, hX g hg e5 e4, hO g e5⟩
theorem PgAt.cells (h : PgAt D w F O p S q seq r b L) : w.cell? ⟨r, 0, none⟩ = some (.pointer (some ⟨q, 0, none⟩)) ∧ w.cell? ⟨r, 1, none⟩ = some (.map (some b)) ∧ r < w.heap.size := by
  refine ⟨?_, ?_, (Array.getElem?_eq_some_iff.1 h.me).1⟩
  · rw [cell_of_row w r 0 _ _ (0, 0) h.me]; rfl
  · rw [cell_of_row w r 1 _ _ (0, 0) h.me]; rfl
/-- While all its blocks stand, it is what it is. -/
theorem PgAt.keep (api : DiskApi D) (h : PgAt D w F O p S q seq r b L) (hs : w.heap.size ≤ w'.heap.size) (hk : ∀ k, O k → w'.heap[k]? = w.heap[k]?) : PgAt D w' F O p S q seq r b L :=
  ⟨api.keep w w' F p S h.d (fun k hf => hk k (h.own k (.inl hf))), h.log.keep (hk q (h.own q (.inr (.inl rfl)))), (hk r (h.own r (.inr (.inr (.inl rfl))))).trans h.me, h.qF, h.rF, h.bF, h.rq, h.own, fun k hk' => Nat.lt_of_lt_of_le (h.lt k hk') hs,
    h.set.keep hs (hk b (h.own b (.inr (.inr (.inr rfl))))) (fun g _ ho _ => hk g ho) (fun g _ _ hx => hx) (fun g ho => ho), h.up, h.all⟩
theorem PgAt.below (api : DiskApi D) (h : PgAt D w F O p S q seq r b L) (hb : Below w.heap.size w w') : PgAt D w' F O p S q seq r b L := h.keep api hb.size fun k hk => hb.block k (h.lt k hk)
/-- The map's block alone was written, to hold L'. -/
theorem PgAt.turn (api : DiskApi D) (h : PgAt D w F O p S q seq r b L) {O' : Nat → Prop} {L' : List (Int × List Int)} (hg : w.grownBy w' (some b)) (hO : ∀ k, O k → O' k) (hlt : ∀ k, O' k → k < w'.heap.size) (hset : PgSet w' (fun k => F k ∨ k = q ∨ k = r ∨ k = b) O' b L') (hup : Rising L') (hall : AllSet S L') : PgAt D w' F O' p S q seq r b L' := by
  have hbm : b ≠ q ∧ b ≠ r := by
    obtain ⟨f, h1, _⟩ := h.set
    obtain ⟨es, c, e⟩ := h1.block
    refine ⟨fun e' => ?_, fun e' => ?_⟩
    · have := h.log; unfold PLog at this; rw [← e', e] at this; cases this
    · have := h.me; rw [← e', e] at this; cases this
  have hB : ∀ k, k < w.heap.size → k ≠ b → w'.heap[k]? = w.heap[k]? := fun k hk hne => hg.block k hk (fun e => hne (Option.some.inj e))
  exact ⟨api.keep w w' F p S h.d (fun k hf => hB k (api.lt w F p S h.d k hf) (fun e => h.bF (e ▸ hf))), h.log.keep (hB q h.log.cells.2.2.2 (fun e => hbm.1 e.symm)), (hB r h.cells.2.2 (fun e => hbm.2 e.symm)).trans h.me, h.qF, h.rF, h.bF, h.rq, fun k hk => hO k (h.own k hk), hlt, hset, hup, hall⟩
end

end Go.Proofs.YtkpmfobmlaldfaaGreatDoor

/-
  The library's slices.Sorted over maps.Keys, and its slices.Sort, at ints: each function of the program is the one that the library's contracts speak of, number by number. No condition.
-/
namespace Go.Proofs
open Go.Shelf
def Tryz.keysA_ren : Go.Shelf.Ren := ⟨fun | 7 => 55 | 10 => 112 | n => n, fun | 23 => 50 | 26 => 3 | 3 => 32 | 28 => 106 | 0 => 0 | 27 => 105 | 33 => 55 | 4 => 4 | n => n, fun | n => n⟩
theorem Tryz.keysA : Go.Proofs.SlLaysZI.n7 Tryz.prog Tryz.keysA_ren := {
  mixed := by kernel_rfl
  f7 := ⟨Tryz.f55.name, by decide, Tryz.func55.trans (congrArg some (by kernel_rfl))⟩
  f10 := ⟨Tryz.f112.name, by decide, Tryz.func112.trans (congrArg some (by kernel_rfl))⟩
  t0 := Tryz.underlying0
  a0 := Tryz.isAgg0
  z0 := Tryz.sizeOf0
  v0 := Tryz.zeroValue0
  t4 := Tryz.underlying4
  a4 := Tryz.isAgg4
  z4 := Tryz.sizeOf4
  v4 := Tryz.zeroValue4
  t23 := Tryz.underlying50
  a23 := Tryz.isAgg50
  z23 := Tryz.sizeOf50
  v23 := Tryz.zeroValue50
  t26 := Tryz.underlying3
  a26 := Tryz.isAgg3
  z26 := Tryz.sizeOf3
  v26 := Tryz.zeroValue3
  t27 := Tryz.underlying105
  a27 := Tryz.isAgg105
  z27 := Tryz.sizeOf105
  v27 := Tryz.zeroValue105
  t28 := Tryz.underlying106
  a28 := Tryz.isAgg106
  z28 := Tryz.sizeOf106
  v28 := Tryz.zeroValue106
  t33 := Tryz.underlying55
  a33 := Tryz.isAgg55
  z33 := Tryz.sizeOf55
  v33 := Tryz.zeroValue55 }
def Tryz.sortedA_ren : Go.Shelf.Ren := ⟨fun | 6 => 54 | 8 => 111 | 9 => 35 | 11 => 172 | 13 => 79 | 12 => 78 | 23 => 139 | 24 => 140 | 14 => 130 | 15 => 131 | 16 => 132 | 17 => 133 | 18 => 134 | 19 => 135 | 20 => 136 | 21 => 137 | 22 => 138 | 25 => 195 | 26 => 196 | 27 => 197 | 28 => 198 | 29 => 199 | 30 => 200 | 31 => 235 | n => n, fun | 26 => 3 | 28 => 106 | 24 => 43 | 0 => 0 | 3 => 3 | 37 => 138 | 48 => 143 | 50 => 206 | 4 => 4 | 40 => 198 | 39 => 197 | 45 => 175 | 5 => 5 | 9 => 9 | 51 => 246 | 55 => 250 | 57 => 269 | 58 => 148 | 33 => 55 | n => n, fun | n => n⟩
theorem Tryz.sortedA : Go.Proofs.SlLaysZI.n6 Tryz.prog Tryz.sortedA_ren := {
  mixed := by kernel_rfl
  f6 := ⟨Tryz.f54.name, by decide, Tryz.func54.trans (congrArg some (by kernel_rfl))⟩
  f8 := ⟨Tryz.f111.name, by decide, Tryz.func111.trans (congrArg some (by kernel_rfl))⟩
  f11 := ⟨Tryz.f172.name, by decide, Tryz.func172.trans (congrArg some (by kernel_rfl))⟩
  t0 := Tryz.underlying0
  a0 := Tryz.isAgg0
  z0 := Tryz.sizeOf0
  v0 := Tryz.zeroValue0
  t24 := Tryz.underlying43
  a24 := Tryz.isAgg43
  z24 := Tryz.sizeOf43
  v24 := Tryz.zeroValue43
  t26 := Tryz.underlying3
  a26 := Tryz.isAgg3
  z26 := Tryz.sizeOf3
  v26 := Tryz.zeroValue3
  t28 := Tryz.underlying106
  a28 := Tryz.isAgg106
  z28 := Tryz.sizeOf106
  v28 := Tryz.zeroValue106
  i26 := by kernel_rfl }
def Tryz.sortA_ren : Go.Shelf.Ren := ⟨fun | 5 => 35 | 8 => 79 | 7 => 78 | 19 => 139 | 20 => 140 | 10 => 130 | 11 => 131 | 12 => 132 | 13 => 133 | 14 => 134 | 15 => 135 | 16 => 136 | 17 => 137 | 18 => 138 | 30 => 195 | 31 => 196 | 32 => 197 | 33 => 198 | 34 => 199 | 35 => 200 | 40 => 235 | n => n, fun | 23 => 43 | 25 => 3 | 3 => 3 | 32 => 138 | 22 => 43 | 0 => 0 | 44 => 143 | 46 => 206 | 4 => 4 | 36 => 198 | 35 => 197 | 41 => 175 | 5 => 5 | 9 => 9 | 53 => 246 | 57 => 250 | 63 => 269 | 64 => 148 | n => n, fun | n => n⟩
theorem Tryz.sortA : Go.Proofs.SlLaysM.n5 Tryz.prog Tryz.sortA_ren := {
  mixed := by kernel_rfl
  f5 := ⟨Tryz.f35.name, by decide, Tryz.func35.trans (congrArg some (by kernel_rfl))⟩
  f7 := ⟨Tryz.f78.name, by decide, Tryz.func78.trans (congrArg some (by kernel_rfl))⟩
  f8 := Tryz.func79.trans (congrArg some (by kernel_rfl))
  f10 := ⟨Tryz.f130.name, by decide, Tryz.func130.trans (congrArg some (by kernel_rfl))⟩
  f11 := ⟨Tryz.f131.name, by decide, Tryz.func131.trans (congrArg some (by kernel_rfl))⟩
  f12 := ⟨Tryz.f132.name, by decide, Tryz.func132.trans (congrArg some (by kernel_rfl))⟩
  f13 := ⟨Tryz.f133.name, by decide, Tryz.func133.trans (congrArg some (by kernel_rfl))⟩
  f14 := ⟨Tryz.f134.name, by decide, Tryz.func134.trans (congrArg some (by kernel_rfl))⟩
  f15 := ⟨Tryz.f135.name, by decide, Tryz.func135.trans (congrArg some (by kernel_rfl))⟩
  f16 := ⟨Tryz.f136.name, by decide, Tryz.func136.trans (congrArg some (by kernel_rfl))⟩
  f17 := ⟨Tryz.f137.name, by decide, Tryz.func137.trans (congrArg some (by kernel_rfl))⟩
  f18 := ⟨Tryz.f138.name, by decide, Tryz.func138.trans (congrArg some (by kernel_rfl))⟩
  f19 := Tryz.func139.trans (congrArg some (by kernel_rfl))
  f20 := Tryz.func140.trans (congrArg some (by kernel_rfl))
  f30 := ⟨Tryz.f195.name, by decide, Tryz.func195.trans (congrArg some (by kernel_rfl))⟩
  f31 := Tryz.func196.trans (congrArg some (by kernel_rfl))
  f32 := Tryz.func197.trans (congrArg some (by kernel_rfl))
  f33 := ⟨Tryz.f198.name, by decide, Tryz.func198.trans (congrArg some (by kernel_rfl))⟩
  f34 := ⟨Tryz.f199.name, by decide, Tryz.func199.trans (congrArg some (by kernel_rfl))⟩
  f35 := ⟨Tryz.f200.name, by decide, Tryz.func200.trans (congrArg some (by kernel_rfl))⟩
  f40 := ⟨Tryz.f235.name, by decide, Tryz.func235.trans (congrArg some (by kernel_rfl))⟩
  t0 := Tryz.underlying0
  a0 := Tryz.isAgg0
  z0 := Tryz.sizeOf0
  v0 := Tryz.zeroValue0
  t3 := Tryz.underlying3
  a3 := Tryz.isAgg3
  z3 := Tryz.sizeOf3
  v3 := Tryz.zeroValue3
  t4 := Tryz.underlying4
  a4 := Tryz.isAgg4
  z4 := Tryz.sizeOf4
  v4 := Tryz.zeroValue4
  t5 := Tryz.underlying5
  a5 := Tryz.isAgg5
  z5 := Tryz.sizeOf5
  v5 := Tryz.zeroValue5
  t9 := Tryz.underlying9
  a9 := Tryz.isAgg9
  z9 := Tryz.sizeOf9
  v9 := Tryz.zeroValue9
  t22 := Tryz.underlying43
  a22 := Tryz.isAgg43
  z22 := Tryz.sizeOf43
  v22 := Tryz.zeroValue43
  t23 := Tryz.underlying43
  a23 := Tryz.isAgg43
  z23 := Tryz.sizeOf43
  v23 := Tryz.zeroValue43
  t25 := Tryz.underlying3
  a25 := Tryz.isAgg3
  z25 := Tryz.sizeOf3
  v25 := Tryz.zeroValue3
  t32 := Tryz.underlying138
  a32 := Tryz.isAgg138
  z32 := Tryz.sizeOf138
  v32 := Tryz.zeroValue138
  t35 := Tryz.underlying197
  a35 := Tryz.isAgg197
  z35 := Tryz.sizeOf197
  v35 := Tryz.zeroValue197
  t36 := Tryz.underlying198
  a36 := Tryz.isAgg198
  z36 := Tryz.sizeOf198
  v36 := Tryz.zeroValue198
  t41 := Tryz.underlying175
  a41 := Tryz.isAgg175
  z41 := Tryz.sizeOf175
  v41 := Tryz.zeroValue175
  t44 := Tryz.underlying143
  a44 := Tryz.isAgg143
  z44 := Tryz.sizeOf143
  v44 := Tryz.zeroValue143
  t46 := Tryz.underlying206
  a46 := Tryz.isAgg206
  z46 := Tryz.sizeOf206
  v46 := Tryz.zeroValue206
  t53 := Tryz.underlying246
  a53 := Tryz.isAgg246
  z53 := Tryz.sizeOf246
  v53 := Tryz.zeroValue246
  t57 := Tryz.underlying250
  a57 := Tryz.isAgg250
  z57 := Tryz.sizeOf250
  v57 := Tryz.zeroValue250
  t63 := Tryz.underlying269
  a63 := Tryz.isAgg269
  z63 := Tryz.sizeOf269
  v63 := Tryz.zeroValue269
  t64 := Tryz.underlying148
  a64 := Tryz.isAgg148
  z64 := Tryz.sizeOf148
  v64 := Tryz.zeroValue148 }
end Go.Proofs

/-
  The pages that a map has, in order: the library's slices.Sorted over its maps.Keys, by contract over a map of whole numbers. Condition: at most 32,767 entries.
-/
namespace Go.Proofs.YtkpmfobmlaldfaaGreatDoor
open Go.RowKit Go.Maps Go.Sort Go.Shelf
set_option maxRecDepth 100000
set_option linter.unusedVariables false

theorem sorts_laid (m : Nat) : AnyZI.SortsIn Tryz.prog Tryz.sortedA_ren Fence.wide m :=
  ⟨fun blk off cap ss W hH hblk hsz => callsIn_wide.2 (AnyM.slices_Sort_int Tryz.sortA blk off cap ss W hH hblk hsz),
   fun p cap W => callsIn_wide.2 (AnyM.slices_Sort_int_none Tryz.sortA p cap W)⟩

/-- The keys of a map of whole numbers. -/
theorem IMap.keys {w : World} {b n : Nat} {f : Int → Option Value} {D : DataW Value} (hD : w.ownsMap Tryz.prog 3 asItself b n D) (hf : ∀ i : Int, Maps.has D (.int .i64 i) = (f i).isSome ∧ ∀ v z, f i = some v → D.atKey (.int .i64 i) z = .held v) :
    (intKeys D).Nodup ∧ ∀ i, i ∈ intKeys D ↔ f i ≠ none := by
  obtain ⟨es, rfl, hne, hkey⟩ := hD.entries int_key
  have hint : ∀ p ∈ es, ∃ i : Int, p.1 = .int .i64 i := by
    obtain ⟨es', c, hb, Ft, hs, he⟩ := hD
    intro p hp
    injection he with he
    rw [he] at hp
    obtain ⟨x, hx, rfl⟩ := List.mem_map.1 (mem_sorted.1 hp)
    obtain ⟨y, hy⟩ := Ft.reads x hx
    rw [WideElems.rg_of hy]
    obtain ⟨z, hz, hz2, _⟩ := Maps.keyOf_i64 Tryz.underlying3 (WideElems.rd_key hy)
    exact ⟨z, hz2⟩
  refine ⟨?_, fun i => ?_⟩
  · show (es.map fun p => Go.intOf p.1).Nodup
    rw [List.nodup_iff_pairwise_ne, List.pairwise_map]
    refine hne.imp_of_mem fun {p q} hp hq hpq e => hpq ?_
    obtain ⟨i, hi⟩ := hint p hp
    obtain ⟨j, hj⟩ := hint q hq
    rw [hi, hj] at e ⊢
    have : i = j := e
    rw [this]
  · have h1 := (hf i).1
    rw [Maps.has_eq] at h1
    show i ∈ es.map (fun p => Go.intOf p.1) ↔ _
    rw [List.mem_map]
    constructor
    · rintro ⟨p, hp, rfl⟩ e0
      obtain ⟨j, hj⟩ := hint p hp
      rw [hj] at e0 h1
      have e1 : f j = none := e0
      have h2 : es.any (fun p => p.1.sameKey (.int .i64 j)) = true := List.any_eq_true.2 ⟨p, hp, by rw [hj]; simp [Lit.sameKey]⟩
      have h3 : es.any (fun p => p.1.sameKey (.int .i64 j)) = (f j).isSome := h1
      rw [h2, e1] at h3
      cases h3
    · intro hne0
      have h2 : es.any (fun p => p.1.sameKey (.int .i64 i)) = true := by
        rw [h1]
        cases hfi : f i with
        | none => exact absurd hfi hne0
        | some v => rfl
      obtain ⟨p, hp, hk⟩ := List.any_eq_true.1 h2
      obtain ⟨j, hj⟩ := hint p hp
      refine ⟨p, hp, ?_⟩
      rw [hj] at hk ⊢
      simpa [Lit.sameKey, Go.intOf] using hk

theorem rising_of {l : List Int} (hn : l.Nodup) : (l.mergeSort leI).Pairwise (fun a b => a < b) := by
  have tr : ∀ a b c : Int, leI a b = true → leI b c = true → leI a c = true := fun a b c h1 h2 => by simp only [leI, decide_eq_true_eq] at *; exact Int.le_trans h1 h2
  have to : ∀ a b : Int, (leI a b || leI b a) = true := fun a b => by simp only [leI, Bool.or_eq_true, decide_eq_true_eq]; exact Int.le_total a b
  have h1 := List.pairwise_mergeSort tr to l
  have h2 : (l.mergeSort leI).Nodup := (List.mergeSort_perm l leI).nodup_iff.2 hn
  refine (List.pairwise_and_iff.2 ⟨h1, List.nodup_iff_pairwise_ne.1 h2⟩).imp fun {a b} h => ?_
  have := h.1
  simp only [leI, decide_eq_true_eq] at this
  have := h.2
  omega
theorem rising_same {l m : List Int} (h1 : l.Pairwise (fun a b => a < b)) (h2 : m.Pairwise (fun a b => a < b)) (h : ∀ i, i ∈ l ↔ i ∈ m) : l = m := by
  have n1 : l.Nodup := List.nodup_iff_pairwise_ne.2 (h1.imp fun {a b} h => by omega)
  have n2 : m.Nodup := List.nodup_iff_pairwise_ne.2 (h2.imp fun {a b} h => by omega)
  refine List.Perm.eq_of_pairwise (le := fun a b => a < b) (fun a b _ _ h1 h2 => by omega) h1 h2 ((List.perm_ext_iff_of_nodup n1 n2).2 h)

theorem mapKeys_any (mb : Option Nat) (W : World) : Calls Tryz.prog 55 #[.map mb] W fun e w' => e = .returned (.func (.func 112) #[] #[.pointer (some ⟨W.heap.size, 0, none⟩)]) ∧ w' = W.alloc (.cells #[.map mb] 50) :=
  (callsIn_wide (n := 5)).1 (AnyZI.keys_in Tryz.keysA Fence.wide 5 trivial rfl mb W)

set_option maxHeartbeats 1000000 in
theorem sortedKeys_any {w : World} {b n : Nat} {f : Int → Option Value} (h : IMap w b n f) (hn : n ≤ 32767) :
    Calls Tryz.prog 54 #[.func (.func 112) #[] #[.pointer (some ⟨w.heap.size, 0, none⟩)]] (w.alloc (.cells #[.map (some b)] 50)) fun e w' =>
      ∃ (A : Option Addr) (c : Nat) (l : List Int), e = .returned (.slice A l.length c) ∧ l.length ≤ c ∧ l.Pairwise (fun a b => a < b) ∧ (∀ i, i ∈ l ↔ f i ≠ none) ∧ w'.ownsRow w.heap.size 3 1 (.slice A l.length c) l.length (l.map (Value.int .i64)) ∧ Below w.heap.size w w' := by
  obtain ⟨D, hD, hf⟩ := h
  obtain ⟨hnd, hmem⟩ := IMap.keys hD hf
  have hsz := hD.size_le
  have hbl := hD.lt
  have hseq : SeqGives Fence.wide 2 Tryz.prog 112 #[.pointer (some ⟨w.heap.size, 0, none⟩)] encZ (fun ss => ss.Perm (intKeys D)) (Maps.size D) (w.alloc (.cells #[.map (some b)] 50)) :=
    AnyZI.keys_gives (ρ := Tryz.keysA_ren) { Tryz.keysA with } Fence.wide _ trivial rfl (by omega) w.heap.size b n D _ (by simp) (by simp) (by
      obtain ⟨es, clock, hb, Ft, hs, hD⟩ := hD
      exact ⟨es, clock, (Below.heap_alloc _ _ b hbl).trans hb, Ft, hs, hD⟩)
  have cS := AnyZI.sorted_in Tryz.sortedA Fence.wide 5 trivial trivial trivial trivial rfl (by omega) (sorts_laid _) (enters_of Tryz.func35 (by kernel_rfl) rfl) 112 #[.pointer (some ⟨w.heap.size, 0, none⟩)] trivial (enters_of Tryz.func112 (by kernel_rfl) rfl) _ _ (by unfold maxLen; omega) (by omega) _ hseq
  change CallsIn _ _ Tryz.prog 54 _ _ _ at cS
  refine ((callsIn_wide (n := 5)).1 cS).mono ?_
  rintro e w' ⟨v, ss, rfl, hS, hrow, hnil, hb⟩
  have hrow' := own_base_le hrow (show w.heap.size ≤ (w.alloc (.cells #[.map (some b)] 50)).heap.size by simp)
  have hl : (ss.mergeSort leI).length = ss.length := List.length_mergeSort ss
  rw [← hl] at hrow'
  obtain ⟨A, c, rfl, hc⟩ := int_own_shape hrow'
  have hp : (ss.mergeSort leI).Perm (intKeys D) := (List.mergeSort_perm ss leI).trans hS
  refine ⟨A, c, ss.mergeSort leI, rfl, hc, rising_of (hS.nodup_iff.2 hnd), fun i => (hp.mem_iff).trans (hmem i), hrow', ((Below.refl w.heap.size w).alloc (Nat.le_refl _) _).trans (hb.mono (by simp))⟩

end Go.Proofs.YtkpmfobmlaldfaaGreatDoor

/-
  Plain: a log of a disk on which nothing fails: Format, Open and Commit succeed, how many sectors they write, and what the pages are then. No program.
-/
namespace Go.Proofs.YtkpmfobmlaldfaaGreatDoor
open Go.RowKit
set_option maxRecDepth 100000
set_option linter.unusedVariables false

theorem pageIn_len (n : Int) (f : Nat → List Int) (p : Int) : (pageIn n f p).length = 240 := by
  unfold pageIn
  by_cases h : (unpackR (f (p + 1 + pagesOf n).toNat)).2.2.2 ≠ 0 ∨ (unpackR (f (p + 1 + pagesOf n).toNat)).1 ≠ p
  · rw [if_pos h]; exact zpage_ok.1
  · rw [if_neg h]
    have h0 : (unpackR (f (p + 1 + pagesOf n).toNat)).2.2.2 = 0 := Classical.not_not.1 (fun e => h (.inl e))
    generalize f (p + 1 + pagesOf n).toNat = l at h0 ⊢
    have hl := (unpack_page h0).2.2
    unfold unpackR at h0 ⊢
    by_cases hs : isSec l
    · rw [if_pos hs]
      show (l.drop 16).length = 240
      rw [List.length_drop, hl]
    · rw [if_neg hs] at h0; cases h0

section
variable {S : DS} {f g : Nat → List Int} {n seq : Int}

theorem Free.write_count (h : Free S) {i : Int} {l : List Int} (hi : 0 ≤ i ∧ i < S.n) (hl : l.length = 256) : (S.write i l).writes = S.writes + 1 := by
  obtain ⟨e, _⟩ := h.write hi hl
  rw [(write_done e).2]
  rfl
theorem Free.put (l : List (Int × List Int)) : ∀ {S : DS}, Free S → (∀ x ∈ l, (0 ≤ x.1 ∧ x.1 < S.n) ∧ x.2.length = 256) → (putS S l).1 = 0 ∧ Free (putS S l).2 ∧ (putS S l).2.writes = S.writes + l.length := by
  induction l with
  | nil =>
    intro S h _
    obtain ⟨h1, h2⟩ := h.flush
    refine ⟨h1, h2, ?_⟩
    show S.flush.writes = _
    rw [(flush_done h1).2]; rfl
  | cons x r ih =>
    intro S h hv
    obtain ⟨v1, v2⟩ := hv _ (List.mem_cons_self ..)
    obtain ⟨h1, h2, h3⟩ := h.write v1 v2
    have h4 := h.write_count v1 v2
    rw [putS_cons, thenS_ok (show (S.wr x.1 x.2).1 = 0 from h1)]
    obtain ⟨q1, q2, q3⟩ := ih (S := (S.wr x.1 x.2).2) h2 (fun y hy => by
      have e : (S.wr x.1 x.2).2.n = S.n := h3
      rw [e]
      exact hv y (List.mem_cons_of_mem _ hy))
    refine ⟨q1, q2, ?_⟩
    rw [q3, List.length_cons, show (S.wr x.1 x.2).2.writes = S.writes + 1 from h4]
    omega

theorem free_mark (h : Free S) (hn : 3 ≤ S.n) {c s : Int} (hs : secR c s = true) : (markS S c s).1 = 0 ∧ Free (markS S c s).2 ∧ (markS S c s).2.n = S.n ∧ (markS S c s).2.writes = S.writes + 1 ∧ Rests (markS S c s).2 (putF S.last 0 (secL c s zpage)) := by
  have hl : (secL c s zpage).length = 256 := by rw [secL_length, zpage_ok.1]
  rw [markS_sec S hs]
  obtain ⟨h1, h2, h3⟩ := h.write (i := 0) (l := secL c s zpage) (by omega) hl
  have h4 := h.write_count (i := 0) (l := secL c s zpage) (by omega) hl
  rw [thenS_ok (show (S.wr 0 (secL c s zpage)).1 = 0 from h1)]
  have hw := (write_done h1).2
  obtain ⟨f1, f2⟩ := h2.flush
  have hf := flush_done f1
  show (S.write 0 (secL c s zpage)).flushE = 0 ∧ Free (S.write 0 (secL c s zpage)).flush ∧ (S.write 0 (secL c s zpage)).flush.n = S.n ∧ (S.write 0 (secL c s zpage)).flush.writes = S.writes + 1 ∧ Rests (S.write 0 (secL c s zpage)).flush (putF S.last 0 (secL c s zpage))
  refine ⟨f1, f2, (P_flush _).trans h3, ?_, ?_⟩
  · rw [hf.2]; exact h4
  · rw [hf.2]
    have e : (S.write 0 (secL c s zpage)).last = putF S.last 0 (secL c s zpage) := by rw [hw]; rfl
    exact ⟨e, e, hf.1⟩

theorem free_commit {l : List (Int × List Int)} (hn : n = S.n) (hn3 : 3 ≤ n) (hI : Imgs n seq l) (hne : l ≠ []) (h : Free S) (hR : Rests S f) :
    (commitS S seq l).1 = 0 ∧ (commitS S seq l).2.1 = seq + 1 ∧ Free (commitS S seq l).2.2 ∧ (commitS S seq l).2.2.n = S.n ∧ (commitS S seq l).2.2.writes = S.writes + (2 * l.length + 1) ∧ Rests (commitS S seq l).2.2 (putH n (marked f seq l) (packs (seq + 1) l)) := by
  obtain ⟨g1, g2⟩ := commit_leaves hn hI hne hR
  have hP : S.P = pagesOf n := by unfold DS.P; rw [hn]
  have hpn := (pagesOf_nn n).2.1 hn3
  have h4 := (pagesOf_nn n).2.2
  have hright : rightS S l := ⟨fun x hx => by rw [hP]; exact hI.page x hx, hI.once⟩
  have hfew := hI.few
  have h0 := hI.seq0
  have h1 := hI.seq1
  have he : rightE S l = 0 := by unfold rightE; rw [if_neg (by rw [hP]; omega), if_pos hright]
  have hsec : secR l.length (seq + 1) = true := decide_eq_true ⟨by omega, by omega, by omega, by omega⟩
  rw [commitS_is he hne] at g1 g2 ⊢
  have hsl : ∀ (l' : List (Int × List Int)) (i : Nat), ((i : Int) + l'.length + 1 ≤ S.n) → (∀ x ∈ l', x.2.length = 256) → ∀ x ∈ atSlots i l', (0 ≤ x.1 ∧ x.1 < S.n) ∧ x.2.length = 256 := by
    intro l'
    induction l' with
    | nil => intro i _ _ x hx; cases hx
    | cons y r ih =>
      intro i hi hy x hx
      simp only [List.length_cons] at hi
      rcases List.mem_cons.1 hx with rfl | hx
      · exact ⟨⟨by show 0 ≤ (i : Int) + 1; omega, by show (i : Int) + 1 < S.n; omega⟩, hy y (List.mem_cons_self ..)⟩
      · exact ih (i + 1) (by omega) (fun z hz => hy z (List.mem_cons_of_mem _ hz)) x hx
  obtain ⟨p1, p2, p3⟩ := h.put (atSlots 0 (packs (seq + 1) l)) (hsl _ 0 (by rw [packs_length]; omega) (fun x hx => (hI.mem hx).2))
  have p4 := (putS_more (atSlots 0 (packs (seq + 1) l)) S).2
  rw [atSlots_length, packs_length] at p3
  have ec : commitP S seq l = commitM (putS S (atSlots 0 (packs (seq + 1) l))).2 seq l := if_neg (fun e => e p1)
  obtain ⟨m1, m2, m3, m4, _⟩ := free_mark p2 (by rw [p4]; omega) hsec
  have em : commitM (putS S (atSlots 0 (packs (seq + 1) l))).2 seq l = _ := if_neg (fun e => e m1)
  have hPM : (markS (putS S (atSlots 0 (packs (seq + 1) l))).2 l.length (seq + 1)).2.P = pagesOf n := by unfold DS.P; rw [m3, p4, hn]
  obtain ⟨q1, q2, q3⟩ := m2.put (atHomes (pagesOf n) (packs (seq + 1) l)) (fun x hx => by
    obtain ⟨z, hz, rfl⟩ := List.mem_map.1 hx
    obtain ⟨⟨a, b⟩, c⟩ := hI.mem hz
    refine ⟨⟨by show 0 ≤ z.1 + 1 + pagesOf n; omega, ?_⟩, c⟩
    show z.1 + 1 + pagesOf n < _
    rw [m3, p4]; omega)
  have hph := putS_homes (packs (seq + 1) l) (markS (putS S (atSlots 0 (packs (seq + 1) l))).2 l.length (seq + 1)).2
  rw [hPM] at hph
  rw [hph] at q1 q2 q3
  have eall : commitP S seq l = ((homesS (markS (putS S (atSlots 0 (packs (seq + 1) l))).2 l.length (seq + 1)).2 (packs (seq + 1) l)).1, seq + 1, (homesS (markS (putS S (atSlots 0 (packs (seq + 1) l))).2 l.length (seq + 1)).2 (packs (seq + 1) l)).2) := ec.trans em
  rw [eall] at g1 g2 ⊢
  refine ⟨q1, rfl, q2, g1, ?_, ?_⟩
  · show (homesS _ _).2.writes = _
    rw [q3, m4, p3]
    simp [atHomes, packs_length]
    omega
  · rcases g2 with ⟨a, _⟩ | ⟨_, b⟩
    · exact absurd q1 a
    · exact b q1

theorem putH_at (l : List (Int × List Int)) : ∀ {f : Nat → List Int}, (l.map (·.1)).Nodup → (∀ x ∈ l, 0 ≤ x.1) → 0 ≤ pagesOf n → ∀ x ∈ l, putH n f l (x.1 + 1 + pagesOf n).toNat = x.2 := by
  induction l with
  | nil => intro f _ _ _ x hx; cases hx
  | cons y r ih =>
    intro f hnd h0 hn x hx
    rw [List.map_cons, List.nodup_cons] at hnd
    show putH n (putF f _ y.2) r _ = x.2
    rcases List.mem_cons.1 hx with rfl | hx
    · rw [putH_far r _ (fun z hz e => by
        have a := h0 x (List.mem_cons_self ..)
        have b := h0 z (List.mem_cons_of_mem _ hz)
        exact hnd.1 (List.mem_map.2 ⟨z, hz, by omega⟩)), putF, if_pos rfl]
    · exact ih hnd.2 (fun z hz => h0 z (List.mem_cons_of_mem _ hz)) hn x hx

/-- The pages behind a commit. -/
theorem pages_marked {l : List (Int × List Int)} (hI : Imgs n seq l) : (∀ x ∈ l, pageIn n (putH n (marked f seq l) (packs (seq + 1) l)) x.1 = x.2) ∧ ∀ p, 0 ≤ p → p < pagesOf n → (∀ x ∈ l, x.1 ≠ p) → pageIn n (putH n (marked f seq l) (packs (seq + 1) l)) p = pageIn n f p := by
  have hnn := (pagesOf_nn n).1
  have hfst : (packs (seq + 1) l).map (·.1) = l.map (·.1) := by unfold packs; rw [List.map_map]; rfl
  refine ⟨fun x hx => ?_, fun p h0 h1 hno => ?_⟩
  · obtain ⟨e1, e2, e3⟩ := hI.pack hx
    have hm : (x.1, (packR x.1 (seq + 1) x.2).1) ∈ packs (seq + 1) l := List.mem_map.2 ⟨x, hx, rfl⟩
    have := putH_at (n := n) (packs (seq + 1) l) (f := marked f seq l) (by rw [hfst]; exact hI.once) (fun z hz => (hI.mem hz).1.1) hnn _ hm
    unfold pageIn
    rw [show putH n (marked f seq l) (packs (seq + 1) l) (x.1 + 1 + pagesOf n).toNat = secL x.1 (seq + 1) x.2 from this.trans e1, e2, if_neg (by simp)]
  · have e : putH n (marked f seq l) (packs (seq + 1) l) (p + 1 + pagesOf n).toNat = f (p + 1 + pagesOf n).toNat := by
      rw [putH_far _ _ (fun z hz e => by
        have a := (hI.mem hz).1.1
        obtain ⟨x, hx, e2⟩ := List.mem_map.1 hz
        have : x.1 = z.1 := by rw [← e2]
        exact hno x hx (by omega))]
      exact (view_marked hI).2.2 _ (by omega)
    unfold pageIn
    rw [e]
end

/-- A log that was just made. -/
def fresh1 : Nat → List Int := putF (fun _ => nought) 0 (secL 0 1 zpage)
theorem fresh1_mark : unpackR (fresh1 0) = (0, 1, zpage, 0) := by
  unfold fresh1 putF
  rw [if_pos rfl]
  exact unpack_pack zpage_ok.2 (by decide) zpage_ok.1
theorem fresh1_opened (n : Int) : listed n fresh1 = some [] ∧ opened n fresh1 = fresh1 := by
  have hnn := (pagesOf_nn n).1
  have e : listed n fresh1 = some [] := by
    unfold listed
    rw [fresh1_mark]
    exact slotsOf_of hnn rfl
  exact ⟨e, opened_some e⟩
theorem fresh_log {m : Nat} (h : 3 ≤ m ∧ m ≤ 65536) : (markS (DS.new m) 0 1).1 = 0 ∧ (openS (markS (DS.new m) 0 1).2).1 = 0 ∧ (openS (markS (DS.new m) 0 1).2).2.1 = 1 ∧ Free (openS (markS (DS.new m) 0 1).2).2.2 ∧ (openS (markS (DS.new m) 0 1).2).2.2.n = m ∧ (openS (markS (DS.new m) 0 1).2).2.2.writes = 1 ∧ Rests (openS (markS (DS.new m) 0 1).2).2.2 fresh1 := by
  have hF : Free (DS.new m) := ⟨rfl, rfl⟩
  obtain ⟨h1, h2, h3, h4, h5⟩ := free_mark hF (c := 0) (s := 1) (show 3 ≤ m from h.1) (by decide)
  have h5' : Rests (markS (DS.new m) 0 1).2 fresh1 := h5
  have h3' : (markS (DS.new m) 0 1).2.n = m := h3
  obtain ⟨o1, o2, o3, o4, o5⟩ := open_free (n := (m : Int)) (by rw [h3']) (by omega) h2 h5' (by rw [fresh1_mark])
  rw [fresh1_mark] at o2
  rw [(fresh1_opened _).2] at o3
  refine ⟨h1, o1, o2, o4, o5.trans h3', ?_, o3⟩
  have hw : (markS (DS.new m) 0 1).2.writes = 1 := h4
  generalize hS : (markS (DS.new m) 0 1).2 = S at *
  have hl : S.last = fresh1 := h5'.last
  have e : (openS S).2.2 = (homesS S []).2 := by
    unfold openS
    rw [if_neg (by simp [h2.up]), hl, if_neg (by rw [fresh1_mark]; simp)]
    have hls := (fresh1_opened (m : Int)).1
    unfold listed at hls
    rw [h3', hls]
    simp only []
    rw [if_neg (fun h' => h' (h2.flush.1))]
  rw [e]
  show S.flush.writes = 1
  rw [(flush_done h2.flush.1).2]
  exact hw

end Go.Proofs.YtkpmfobmlaldfaaGreatDoor

/-
  A law's own disk and log, worked on call by call, over any disk that answers as it is to. Conditions: those of the contracts; the table that crc.Step reads holds what the program's text lays in it when the law begins.
-/
namespace Go.Proofs.YtkpmfobmlaldfaaGreatDoor
open Go.RowKit
set_option maxRecDepth 100000
set_option linter.unusedVariables false

/-- In w the law's disk S lies at p in blocks of the law's own, F; what was there when the law began (w0) stands, the table among it. -/
structure LawD (D : World → (Nat → Prop) → Addr → DS → Prop) (w0 w : World) (F : Nat → Prop) (p : Addr) (S : DS) : Prop where
  d : D w F p S
  out : ∀ k, F k → w0.heap.size ≤ k
  bel : Below w0.heap.size w0 w
  tab : Tab w0 ∧ 1 < w0.heap.size
/-- .. and a log of it at q. -/
structure LawL (D : World → (Nat → Prop) → Addr → DS → Prop) (w0 w : World) (F : Nat → Prop) (p : Addr) (S : DS) (q : Nat) (seq : Int) : Prop extends LawD D w0 w F p S where
  log : PLog w q p seq
  qF : ¬ F q
  q0 : w0.heap.size ≤ q

section
variable {D : World → (Nat → Prop) → Addr → DS → Prop} {w0 w w' : World} {F F' : Nat → Prop} {p : Addr} {S S' : DS} {q : Nat} {seq : Int}

theorem LawD.tabF (h : LawD D w0 w F p S) : TabF w F := ⟨h.tab.1.below h.bel h.tab.2, Nat.lt_of_lt_of_le h.tab.2 h.bel.size, fun hf => by have := h.out _ hf; have := h.tab.2; omega⟩
theorem LawD.lt (api : DiskApi D) (h : LawD D w0 w F p S) : ∀ k, F k → k < w.heap.size := api.lt w F p S h.d
theorem LawD.later (api : DiskApi D) (h : LawD D w0 w F p S) (hb : Below w.heap.size w w') : LawD D w0 w' F p S := ⟨api.below h.d hb, h.out, h.bel.trans (hb.mono h.bel.size), h.tab⟩
theorem LawD.next (h : LawD D w0 w F p S) (hd : D w' F' p S') (ht : Touch F w w') (hF : ∀ k, F' k → F k ∨ w.heap.size ≤ k) : LawD D w0 w' F' p S' :=
  ⟨hd, fun k hk => by
    rcases hF k hk with a | a
    · exact h.out k a
    · exact Nat.le_trans h.bel.size a, h.bel.trans (ht.below h.out h.bel.size), h.tab⟩
theorem LawL.later (api : DiskApi D) (h : LawL D w0 w F p S q seq) (hb : Below w.heap.size w w') : LawL D w0 w' F p S q seq := ⟨h.toLawD.later api hb, h.log.below hb, h.qF, h.q0⟩
theorem LawL.next (h : LawL D w0 w F p S q seq) (hd : D w' F' p S') (ht : Touch F w w') (hF : ∀ k, F' k → F k ∨ w.heap.size ≤ k) : LawL D w0 w' F' p S' q seq :=
  ⟨h.toLawD.next hd ht hF, h.log.keep (ht.block q h.log.cells.2.2.2 h.qF), fun hf => by
    rcases hF q hf with a | a
    · exact h.qF a
    · have := h.log.cells.2.2.2; omega, h.q0⟩

theorem law_new (api : DiskApi D) {n : Int} (h1 : 3 ≤ n) (h2 : n ≤ 65536) (ht : Tab w0 ∧ 1 < w0.heap.size) (hb : Below w0.heap.size w0 w) : Calls Tryz.prog 41 #[.int .i64 n] w fun e w' => ∃ (p : Addr) (F : Nat → Prop), e = .returned (.tuple #[.pointer (some p), .int .i64 0]) ∧ LawD D w0 w' F p (DS.new n.toNat) ∧ Below w.heap.size w w' := by
  refine (api.new n w h1 h2).mono ?_
  rintro e w' ⟨p, F, rfl, hd, hb', hF⟩
  exact ⟨p, F, rfl, ⟨hd, fun k hk => Nat.le_trans hb.size (hF k hk), hb.trans (hb'.mono hb.size), ht⟩, hb'⟩
theorem law_format (api : DiskApi D) (h : LawD D w0 w F p S) (hw : S.writes ≤ 9223372036854775800) : Calls Tryz.prog 42 #[.pointer (some p)] w fun e w' => e = .returned (.int .i64 (markS S 0 1).1) ∧ ∃ F', LawD D w0 w' F' p (markS S 0 1).2 ∧ Touch F w w' ∧ ∀ k, F' k → F k ∨ w.heap.size ≤ k := by
  refine (format_any api h.d h.tabF hw).mono ?_
  rintro e w' ⟨rfl, F', d, t, n⟩
  exact ⟨rfl, F', h.next d t n, t, n⟩
theorem law_open (api : DiskApi D) (h : LawD D w0 w F p S) (hw : S.writes ≤ 9223372036854700000) : Calls Tryz.prog 43 #[.pointer (some p)] w fun e w' =>
    ((openS S).1 ≠ 0 ∧ e = .returned (.tuple #[.pointer none, .int .i64 (openS S).1]) ∧ ∃ F', LawD D w0 w' F' p (openS S).2.2 ∧ Touch F w w' ∧ ∀ k, F' k → F k ∨ w.heap.size ≤ k) ∨
    ((openS S).1 = 0 ∧ ∃ q F', e = .returned (.tuple #[.pointer (some ⟨q, 0, none⟩), .int .i64 0]) ∧ w.heap.size ≤ q ∧ LawL D w0 w' F' p (openS S).2.2 q (openS S).2.1 ∧ Touch F w w' ∧ ∀ k, F' k → F k ∨ w.heap.size ≤ k) := by
  refine (open_any api h.d h.tabF hw).mono ?_
  rintro e w' (⟨h1, rfl, F', d, t, n⟩ | ⟨h1, q, F', rfl, hq, hl, hqF, d, t, n⟩)
  · exact .inl ⟨h1, rfl, F', h.next d t n, t, n⟩
  · exact .inr ⟨h1, q, F', rfl, hq, ⟨h.next d t n, hl, hqF, Nat.le_trans h.bel.size hq⟩, t, n⟩
/-- Open where it can't fail. -/
theorem law_open_ok (api : DiskApi D) (h : LawD D w0 w F p S) (hw : S.writes ≤ 9223372036854700000) (h0 : (openS S).1 = 0) : Calls Tryz.prog 43 #[.pointer (some p)] w fun e w' =>
    ∃ q F', e = .returned (.tuple #[.pointer (some ⟨q, 0, none⟩), .int .i64 0]) ∧ w.heap.size ≤ q ∧ LawL D w0 w' F' p (openS S).2.2 q (openS S).2.1 ∧ Touch F w w' ∧ ∀ k, F' k → F k ∨ w.heap.size ≤ k := by
  refine (law_open api h hw).mono ?_
  rintro e w' (⟨h1, _⟩ | ⟨_, h2⟩)
  · exact absurd h0 h1
  · exact h2
/-- Open, whatever it answers. -/
theorem law_open_some (api : DiskApi D) (h : LawD D w0 w F p S) (hw : S.writes ≤ 9223372036854700000) : Calls Tryz.prog 43 #[.pointer (some p)] w fun e w' =>
    ∃ v F', e = .returned (.tuple #[v, .int .i64 (openS S).1]) ∧ LawD D w0 w' F' p (openS S).2.2 ∧ Touch F w w' ∧ ∀ k, F' k → F k ∨ w.heap.size ≤ k := by
  refine (law_open api h hw).mono ?_
  rintro e w' (⟨h1, rfl, F', d, t, n⟩ | ⟨h1, q, F', rfl, _, d, t, n⟩)
  · exact ⟨_, F', rfl, d, t, n⟩
  · exact ⟨_, F', by rw [h1], d.toLawD, t, n⟩
theorem law_commit (api : DiskApi D) (h : LawL D w0 w F p S q seq) {A : Option Addr} {n c : Nat} {l : List (Int × List Int)} (hl : RImgs w (orAt F q) A n l) (hby : ∀ y ∈ l, AllBytes y.2) (hin : ∀ y ∈ l, -9223372036854775808 ≤ y.1 ∧ y.1 ≤ 9223372036854775807) (hn : n ≤ 65536) (hs : 0 ≤ seq ∧ seq < 4611686018427387904) (hw : S.writes ≤ 9223372036854500000) :
    Calls Tryz.prog 52 #[.pointer (some ⟨q, 0, none⟩), .slice A n c] w fun e w' => e = .returned (.int .i64 (commitS S seq l).1) ∧ ∃ F', LawL D w0 w' F' p (commitS S seq l).2.2 q (commitS S seq l).2.1 ∧ Touch (orAt F q) w w' ∧ ∀ k, F' k → F k ∨ w.heap.size ≤ k := by
  refine (commit_any (c := c) api h.d h.log h.qF h.tabF hl hby hin hn hs hw).mono ?_
  rintro e w' ⟨rfl, F', d, hlog, hqF, t, n⟩
  refine ⟨rfl, F', ⟨⟨d, fun k hk => ?_, h.bel.trans (t.below (fun k hk => ?_) h.bel.size), h.tab⟩, hlog, hqF, h.q0⟩, t, n⟩
  · rcases n k hk with a | a
    · exact h.out k a
    · exact Nat.le_trans h.bel.size a
  · rcases hk with a | rfl
    · exact h.out k a
    · exact h.q0
theorem law_load (api : DiskApi D) (h : LawL D w0 w F p S q seq) (pg : Int) (hpg : -9223372036854775808 ≤ pg ∧ pg ≤ 9223372036854775807) : Calls Tryz.prog 50 #[.pointer (some ⟨q, 0, none⟩), .int .i64 pg] w fun e w' => ∃ A n c, e = .returned (.tuple #[.slice A n c, .int .i64 (loadS S pg).2]) ∧ n ≤ c ∧ RB w' w'.heap.size A n (loadS S pg).1 ∧ LawL D w0 w' F p S q seq ∧ Below w.heap.size w w' := by
  refine (load_any api h.d h.log h.tabF pg hpg).mono ?_
  rintro e w' ⟨A, n, c, rfl, hc, hr, hb⟩
  exact ⟨A, n, c, rfl, hc, hr, h.later api hb, hb⟩
theorem law_pages (api : DiskApi D) (h : LawL D w0 w F p S q seq) : Calls Tryz.prog 56 #[.pointer (some ⟨q, 0, none⟩)] w fun e w' => e = .returned (.int .i64 (pagesOf S.n)) ∧ w' = w := pages_same api h.d h.log
/-- The beginning of a law: a disk that was made, formatted and opened. -/
theorem law_fresh_open {m : Nat} (hm : 3 ≤ m ∧ m ≤ 65536) : (markS (DS.new m) 0 1).2.writes ≤ 9223372036854700000 := by
  have hF : Free (DS.new m) := ⟨rfl, rfl⟩
  obtain ⟨_, _, _, h4, _⟩ := free_mark hF (c := 0) (s := 1) (show 3 ≤ m from hm.1) (by decide)
  rw [h4]
  show 0 + 1 ≤ 9223372036854700000
  omega
end

end Go.Proofs.YtkpmfobmlaldfaaGreatDoor

/-
  Contracts of the program's pager, but Commit: made, Pages, Changed, Get, Set, Abort, New. Conditions: the table that crc.Step reads holds what the program's text lays in it (Get); numbers are ints.
-/
namespace Go.Proofs.YtkpmfobmlaldfaaGreatDoor
open Go.RowKit
set_option maxRecDepth 100000
set_option linter.unusedVariables false

section
variable {D : World → (Nat → Prop) → Addr → DS → Prop} {w w' : World} {F O : Nat → Prop} {p : Addr} {S : DS} {q r b : Nat} {seq : Int} {L : List (Int × List Int)}

set_option maxHeartbeats 400000 in
theorem pmade_any (h : PgAt D w F O p S q seq r b L) : Calls Tryz.prog 47 #[.pointer (some ⟨r, 0, none⟩)] w fun e w' => e = .returned (.bool true) ∧ w = w' := by
  obtain ⟨l0, l1, l2⟩ := h.cells
  clear h
  go_enter Tryz.func47, Tryz.ntmps47
  go_wp2
  go_ret
  exact ⟨rfl, rfl⟩

set_option maxHeartbeats 400000 in
theorem ppages_any (api : DiskApi D) (h : PgAt D w F O p S q seq r b L) : Calls Tryz.prog 24 #[.pointer (some ⟨r, 0, none⟩)] w fun e w' => e = .returned (.int .i64 (pagesOf S.n)) ∧ w' = w := by
  obtain ⟨l0, l1, l2⟩ := h.cells
  have HM := Lib.hid (pmade_any h)
  have HP := Lib.hid (pages_same api h.d h.log)
  clear h
  go_enter Tryz.func24, Tryz.ntmps24
  go_wp2_with fail
  refine HM.out.mono ?_
  rintro e w1 ⟨rfl, rfl⟩
  go_wp2_with fail
  refine HP.out.mono ?_
  rintro e w1 ⟨rfl, hw⟩
  have hw := hw.symm
  subst hw
  go_wp2
  go_ret
  exact ⟨rfl, rfl⟩

theorem PgSet.sup {X : Nat → Prop} (h : PgSet w X O b L) : ∃ f, IMap w b L.length f ∧ ∀ i, f i ≠ none ↔ atL L i ≠ none := by
  obtain ⟨f, h1, h2⟩ := h
  refine ⟨f, h1, fun i => ⟨fun hf e => hf ((h2 i).1 e), fun ha e => ?_⟩⟩
  cases hl : atL L i with
  | none => exact ha hl
  | some l =>
    obtain ⟨g, c, e1, _⟩ := (h2 i).2 l hl
    rw [e1] at e
    cases e
theorem atL_ne {i : Int} (h : Rising L) : atL L i ≠ none ↔ i ∈ L.map (·.1) := by
  constructor
  · intro hne
    cases hl : atL L i with
    | none => exact absurd hl hne
    | some l => exact List.mem_map.2 ⟨_, atL_mem hl, rfl⟩
  · intro hm e
    obtain ⟨x, hx, rfl⟩ := List.mem_map.1 hm
    rw [h.at_ (i := x.1) (l := x.2) hx] at e
    cases e

set_option maxHeartbeats 800000 in
theorem pchanged_any (api : DiskApi D) (h : PgAt D w F O p S q seq r b L) : Calls Tryz.prog 22 #[.pointer (some ⟨r, 0, none⟩)] w fun e w' => ∃ (A : Option Addr) (c : Nat), e = .returned (.slice A L.length c) ∧ L.length ≤ c ∧ RI w' w'.heap.size A L.length (L.map (·.1)) ∧ Below w.heap.size w w' := by
  obtain ⟨l0, l1, l2⟩ := h.cells
  have HM := Lib.hid (pmade_any h)
  obtain ⟨f, hf, hsup⟩ := h.set.sup
  have hb := pagesOf_bounds (S.n : Int)
  have hfew := few_set h.up h.all
  have hup := h.up
  have hall := h.all
  have HK := Lib.hid (mapKeys_any (some b) w)
  have HS := Lib.hid (sortedKeys_any hf (by unfold DS.P at hfew; omega))
  have HSUP := Lib.hid (fun i => (hsup i).trans (atL_ne hup))
  have HUP := Lib.hid (And.intro hup (And.intro hall hb))
  clear h hf hsup hfew hup hall hb
  go_enter Tryz.func22, Tryz.ntmps22
  go_wp2_with fail
  refine HM.out.mono ?_
  rintro e w1 ⟨rfl, rfl⟩
  go_wp2_with fail
  refine HK.out.mono ?_
  rintro e w1 ⟨rfl, rfl⟩
  go_wp2_with fail
  refine HS.out.mono ?_
  rintro e w1 ⟨A, c, l, rfl, hc, hl, hmem, hown, hb⟩
  have hl2 : l = L.map (·.1) := rising_same hl (List.pairwise_map.2 HUP.out.1) (fun i => (hmem i).trans (HSUP.out i))
  have HB := Lib.hid hb
  subst hl2
  rw [List.length_map] at hown hc ⊢
  have hri := Lib.hid (RI.of_own hown (fun x hx => by
    obtain ⟨y, hy, rfl⟩ := List.mem_map.1 hx
    obtain ⟨a1, a2, _⟩ := HUP.out.2.1 y hy
    have := HUP.out.2.2
    unfold DS.P at a2
    omega)).1
  clear hl hmem hown hb
  go_wp2
  go_ret
  exact ⟨_, _, rfl, hc, hri.out, HB.out⟩

set_option maxHeartbeats 800000 in
theorem pget_any (api : DiskApi D) (h : PgAt D w F O p S q seq r b L) (ht : TabF w F) (i : Int) (hi : -9223372036854775808 ≤ i ∧ i ≤ 9223372036854775807) : Calls Tryz.prog 15 #[.pointer (some ⟨r, 0, none⟩), .int .i64 i] w fun e w' => ∃ A n c, e = .returned (.tuple #[.slice A n c, .int .i64 (getPg S L i).2]) ∧ n ≤ c ∧ RB w' w'.heap.size A n (getPg S L i).1 ∧ Below w.heap.size w w' := by
  obtain ⟨l0, l1, l2⟩ := h.cells
  have HM := Lib.hid (pmade_any h)
  obtain ⟨f, hf, hset⟩ := h.set
  have HLD := Lib.hid (load_any api h.d h.log ht i hi)
  have q1 := hf.look Tryz.underlying50 (zero_slice w) hi
  cases ha : atL L i with
  | none =>
    have hg : getPg S L i = loadS S i := by unfold getPg; rw [ha]
    rw [(hset i).1 ha] at q1
    simp only [Option.getD_none, Option.isSome_none] at q1
    rw [hg]
    clear hg ha hset hf h ht
    go_enter Tryz.func15, Tryz.ntmps15
    go_wp2_with fail
    refine HM.out.mono ?_
    rintro e w1 ⟨rfl, rfl⟩
    go_wp2_with fail
    refine HLD.out.mono ?_
    rintro e w1 ⟨A, n, c, rfl, hc, hr, hb⟩
    have HE := Lib.hid (And.intro hr hb)
    clear hr hb
    go_wp2
    go_ret2
    exact ⟨_, _, _, rfl, hc, HE.out.1, HE.out.2⟩
  | some l =>
    have hg : getPg S L i = (l, 0) := by unfold getPg; rw [ha]
    obtain ⟨g, c, e1, hc, hr, _⟩ := (hset i).2 l ha
    rw [e1] at q1
    simp only [Option.getD_some, Option.isSome_some] at q1
    have HCL := Lib.hid (SClone_any c hr (Nat.le_refl _) (by decide))
    rw [hg]
    clear hg ha hset hf h ht hr e1
    go_enter Tryz.func15, Tryz.ntmps15
    go_wp2_with fail
    refine HM.out.mono ?_
    rintro e w1 ⟨rfl, rfl⟩
    go_wp2_with fail
    refine HCL.out.mono ?_
    rintro e w1 ⟨A, c1, rfl, hc1, hr, hb⟩
    have HE := Lib.hid (And.intro hr hb)
    clear hr hb
    go_wp2
    go_ret2
    exact ⟨_, _, _, rfl, hc1, HE.out.1, HE.out.2⟩

/-- The map was emptied. -/
theorem PgAt.empty (api : DiskApi D) (h : PgAt D w F O p S q seq r b L) (hm : IMap w' b 0 (fun _ => none)) (hg : w.grownBy w' (some b)) : PgAt D w' F O p S q seq r b [] :=
  h.turn api hg (fun k hk => hk) (fun k hk => Nat.lt_of_lt_of_le (h.lt k hk) hg.size) ⟨_, hm, fun i => ⟨fun _ => rfl, fun l hl => by cases hl⟩⟩ List.Pairwise.nil (fun x hx => by cases hx)
theorem touch_grown {X : Nat → Prop} (hg : w.grownBy w' (some b)) (hb : X b) : Touch X w w' := ⟨hg.os, hg.tape, hg.output, hg.size, fun k hk hn => hg.block k hk (fun e => hn (by injection e with e; rw [e]; exact hb))⟩

set_option maxHeartbeats 400000 in
theorem pabort_any (api : DiskApi D) (h : PgAt D w F O p S q seq r b L) : Calls Tryz.prog 20 #[.pointer (some ⟨r, 0, none⟩)] w fun e w' => e = .returned (.tuple #[]) ∧ PgAt D w' F O p S q seq r b [] ∧ w.grownBy w' (some b) := by
  obtain ⟨l0, l1, l2⟩ := h.cells
  have HM := Lib.hid (pmade_any h)
  obtain ⟨f, hf, hset⟩ := h.set
  obtain ⟨w5, hrun5, hm5, hg5⟩ := hf.clear_ Tryz.underlying50 0
  have HE := Lib.hid (And.intro (h.empty api hm5 hg5) hg5)
  clear h hf hset hm5 hg5
  go_enter Tryz.func20, Tryz.ntmps20
  go_wp2_with fail
  refine HM.out.mono ?_
  rintro e w1 ⟨rfl, rfl⟩
  go_wp2
  go_end0
  exact ⟨rfl, HE.out⟩
end

end Go.Proofs.YtkpmfobmlaldfaaGreatDoor

/-
  Contracts of the program's pager's Set and New. Conditions: numbers and lengths are ints.
-/
namespace Go.Proofs.YtkpmfobmlaldfaaGreatDoor
open Go.RowKit
set_option maxRecDepth 100000
set_option linter.unusedVariables false

section
variable {D : World → (Nat → Prop) → Addr → DS → Prop} {w w' : World} {F O : Nat → Prop} {p : Addr} {S : DS} {q r b : Nat} {seq : Int} {L : List (Int × List Int)}

/-- Stored: the map holds the slice of a new block at i. -/
theorem PgAt.stored (api : DiskApi D) (h : PgAt D w F O p S q seq r b L) {i : Int} {l : List Int} (hi : 0 ≤ i ∧ i < S.P) (hl : l.length = 240) (hb : AllBytes l) {w1 : World} {g c : Nat} (hb1 : Below w.heap.size w w1) (hg : w.heap.size ≤ g) (hc : 240 ≤ c) (hr : RB w1 w1.heap.size (some ⟨g, 0, none⟩) 240 l) :
    ∃ w2, (Instr.mapUpdate 50 (.map (some b)) (.int .i64 i) (.slice (some ⟨g, 0, none⟩) 240 c)).run Tryz.prog w1 = .ok () w2 ∧ Hid (PgAt D w2 F (fun k => O k ∨ k = g) p S q seq r b (setL L i l) ∧ Touch O w w2) := by
  have hfew := few_set h.up h.all
  have hpb := pagesOf_bounds (S.n : Int)
  have h1 := h.below api hb1
  obtain ⟨f, hf, hset⟩ := h1.set
  have hgl : g < w1.heap.size := by obtain ⟨bb, _, e, hbb, _⟩ := hr.at_ (by decide); cases e; exact hbb
  obtain ⟨w2, hrun, hm2, hg2⟩ := hf.store Tryz.underlying50 (i := i) (by unfold maxLen; unfold DS.P at hfew; omega) (by unfold DS.P at hi; omega) (.slice (some ⟨g, 0, none⟩) 240 c)
  have hsup : ∀ j, (fun j => if j = i then some (Value.slice (some ⟨g, 0, none⟩) 240 c) else f j) j ≠ none → j ∈ (setL L i l).map (·.1) := by
    intro j hj
    have hup : Rising (setL L i l) := h.up.set
    rw [← atL_ne hup, atL_setL]
    by_cases e : j = i
    · rw [if_pos e]; simp
    · rw [if_neg e]
      intro ha
      simp only [if_neg e] at hj
      exact hj ((hset j).1 ha)
  have hm3 := hm2.tight ((setL L i l).map (·.1)) hsup
  rw [List.length_map] at hm3
  have hno : ∀ k, (F k ∨ k = q ∨ k = r ∨ k = b) → k ≠ g := fun k hk e => by
    have := h.lt k (h.own k hk)
    omega
  have hgb : g ≠ b := fun e => hno b (.inr (.inr (.inr rfl))) e.symm
  refine ⟨w2, hrun, Lib.hid ⟨h1.turn api hg2 (fun k hk => .inl hk) (fun k hk => ?_) ⟨_, hm3, fun j => ?_⟩ h.up.set (h.all.set hi hl hb), ?_⟩⟩
  · rcases hk with a | a
    · exact Nat.lt_of_lt_of_le (h1.lt k a) hg2.size
    · rw [a]; exact Nat.lt_of_lt_of_le hgl hg2.size
  · rw [atL_setL]
    by_cases e : j = i
    · rw [if_pos e]
      refine ⟨fun ha => (by cases ha), fun l' hl' => ?_⟩
      cases hl'
      refine ⟨g, c, by simp [e], hc, hr.there (by decide) (hg2.block g hgl (fun e => hgb (Option.some.inj e))) hg2.size, fun hx => hno g hx rfl, .inr rfl⟩
    · rw [if_neg e]
      refine ⟨fun ha => by simp only [if_neg e]; exact (hset j).1 ha, fun l' hl' => ?_⟩
      obtain ⟨g', c', e1, e2, e3, e4, e5⟩ := (hset j).2 l' hl'
      have hg' : g' < w1.heap.size := by obtain ⟨bb, _, e, hbb, _⟩ := e3.at_ (by decide); cases e; exact hbb
      exact ⟨g', c', by simp only [if_neg e]; exact e1, e2, e3.there (by decide) (hg2.block g' hg' (fun e => e4 (.inr (.inr (.inr (Option.some.inj e)))))) hg2.size, e4, .inl e5⟩
  · have hOb := h.own b (.inr (.inr (.inr rfl)))
    exact ⟨hg2.os.trans hb1.os, hg2.tape.trans hb1.tape, hg2.output.trans hb1.output, Nat.le_trans hb1.size hg2.size, fun k hk hn => (hg2.block k (Nat.lt_of_lt_of_le hk hb1.size) (fun e => hn (by injection e with e; rw [e]; exact hOb))).trans (hb1.block k hk)⟩

set_option maxHeartbeats 3200000 in
theorem pset_any (api : DiskApi D) (h : PgAt D w F O p S q seq r b L) (i : Int) {A : Option Addr} {n c B : Nat} {l : List Int} (hi : -9223372036854775808 ≤ i ∧ i ≤ 9223372036854775807) (hr : RB w B A n l) (hB : B ≤ w.heap.size) (hn : n ≤ maxLen) :
    Calls Tryz.prog 12 #[.pointer (some ⟨r, 0, none⟩), .int .i64 i, .slice A n c] w fun e w' => e = .returned (.int .i64 (setPgE S i l)) ∧ ∃ O', PgAt D w' F O' p S q seq r b (setPg S L i l) ∧ Touch O w w' ∧ ∀ k, O' k → O k ∨ w.heap.size ≤ k := by
  unfold maxLen at hn
  obtain ⟨l0, l1, l2⟩ := h.cells
  have hlen := hr.len
  have HM := Lib.hid (pmade_any h)
  have HP := Lib.hid (ppages_any api h)
  have hPd : S.P = pagesOf S.n := rfl
  have HH := Lib.hid h
  have HSAME := Lib.hid (show PgAt D w F O p S q seq r b L ∧ Touch O w w ∧ ∀ k, O k → O k ∨ w.heap.size ≤ k from ⟨h, Touch.refl _ _, fun k hk => .inl hk⟩)
  by_cases h1 : i < 0
  · have hE : setPgE S i l = 1 ∧ setPg S L i l = L := by unfold setPgE setPg; exact ⟨if_pos (.inl h1), if_pos (.inl h1)⟩
    have k1 : decide (i < 0) = true := by simpa using h1
    rw [hE.1, hE.2]
    clear hE h1 h hr hlen
    go_enter Tryz.func12, Tryz.ntmps12
    go_wp2_with fail
    refine HM.out.mono ?_
    rintro e w1 ⟨rfl, rfl⟩
    go_wp2
    go_ret
    exact ⟨rfl, O, HSAME.out⟩
  have k1 : decide (i < 0) = false := by simpa using h1
  by_cases h2 : i ≥ S.P
  · have hE : setPgE S i l = 1 ∧ setPg S L i l = L := by unfold setPgE setPg; exact ⟨if_pos (.inr (.inl h2)), if_pos (.inr (.inl h2))⟩
    have k2 : decide (i ≥ pagesOf S.n) = true := by rw [← hPd]; simpa using h2
    rw [hE.1, hE.2]
    clear hE h1 h2 h hr hlen hPd
    go_enter Tryz.func12, Tryz.ntmps12
    go_wp2_with fail
    refine HM.out.mono ?_
    rintro e w1 ⟨rfl, rfl⟩
    go_wp2_with fail
    refine HP.out.mono ?_
    rintro e w1 ⟨rfl, hw⟩
    have hw := hw.symm
    subst hw
    go_wp2
    go_ret
    exact ⟨rfl, O, HSAME.out⟩
  have k2 : decide (i ≥ pagesOf S.n) = false := by rw [← hPd]; simpa using h2
  by_cases h3 : n = 240
  · subst h3
    have hE : setPgE S i l = 0 ∧ setPg S L i l = setL L i l := by unfold setPgE setPg; exact ⟨if_neg (by rw [hlen]; omega), if_neg (by rw [hlen]; omega)⟩
    rw [hE.1, hE.2]
    have hrd : RB w.drew w.drew.heap.size A 240 l := (hr.more hB).drew
    have HST := Lib.hid (fun (w1 : World) (g c1 : Nat) (hb1 : Below w.heap.size w w1) (hg : w.heap.size ≤ g) (hc : 240 ≤ c1) (hr1 : RB w1 w1.heap.size (some ⟨g, 0, none⟩) 240 l) => h.stored api (i := i) ⟨by omega, by omega⟩ hlen hr.bytes hb1 hg hc hr1)
    have HBY := Lib.hid hr.bytes
    clear hE h1 h2 h hr hlen hPd
    go_enter Tryz.func12, Tryz.ntmps12
    go_wp2_with fail
    refine HM.out.mono ?_
    rintro e w1 ⟨rfl, rfl⟩
    go_wp2_with fail
    refine HP.out.mono ?_
    rintro e w1 ⟨rfl, hw⟩
    have hw := hw.symm
    subst hw
    go_wp2_with fail
    have e1 : w.drew.cell? ⟨r, 1, none⟩ = some (.map (some b)) := l1
    go_region_with
      (go_at_call 48; refine (CloneB_own c hrd (Nat.le_refl _) (by decide)).mono ?_; rintro e w5 ⟨A5, k5, rfl, hk5, hown5, hb5⟩; obtain ⟨g5, k5', e5, hk5', hg5⟩ := own_some hown5 (by decide); cases e5; have hb5' : Below w.heap.size w w5 := (Below.refl _ _).drew.trans hb5; obtain ⟨w6, hrun6, HE⟩ := HST.out w5 g5 k5 hb5' hg5 hk5 (RB.of_own hown5 HBY.out); have l5 : w5.cell? ⟨r, 1, none⟩ = some (.map (some b)) := (hb5'.cell (p := ⟨r, 1, none⟩) l2).trans l1; clear hown5 hb5 hb5')
    all_goals go_wp2
    all_goals go_ret
    all_goals exact ⟨rfl, _, HE.out.1, HE.out.2, fun k hk => hk.imp id (fun e => by rw [e]; exact hg5)⟩
  · have hE : setPgE S i l = 1 ∧ setPg S L i l = L := by unfold setPgE setPg; exact ⟨if_pos (.inr (.inr (by rw [hlen]; exact h3))), if_pos (.inr (.inr (by rw [hlen]; exact h3)))⟩
    have k3 : ((n : Int) != 240) = true := by simp; omega
    rw [hE.1, hE.2]
    clear hE h1 h2 h3 h hr hlen hPd
    go_enter Tryz.func12, Tryz.ntmps12
    go_wp2_with fail
    refine HM.out.mono ?_
    rintro e w1 ⟨rfl, rfl⟩
    go_wp2_with fail
    refine HP.out.mono ?_
    rintro e w1 ⟨rfl, hw⟩
    have hw := hw.symm
    subst hw
    go_wp2
    go_ret
    exact ⟨rfl, O, HSAME.out⟩
end

end Go.Proofs.YtkpmfobmlaldfaaGreatDoor

/-
  Plain: a commit of no image, and how many sectors a commit writes. No program.
-/
namespace Go.Proofs.YtkpmfobmlaldfaaGreatDoor
open Go.RowKit
set_option maxRecDepth 100000
set_option linter.unusedVariables false

theorem ints_few {N : Nat} {l : List Int} (hn : l.Nodup) (h : ∀ x ∈ l, 0 ≤ x ∧ x < N) : l.length ≤ N := by
  have h1 : (l.map Int.toNat).Nodup := by
    rw [List.nodup_iff_pairwise_ne, List.pairwise_map]
    refine (List.pairwise_iff_getElem.2 fun i j hi hj hij => ?_)
    have h2 := h _ (List.getElem_mem hi)
    have h3 := h _ (List.getElem_mem hj)
    have h4 := (List.pairwise_iff_getElem.1 (List.nodup_iff_pairwise_ne.1 hn)) i j hi hj hij
    omega
  have := nodup_lt N _ h1 (fun x hx => by
    obtain ⟨y, hy, rfl⟩ := List.mem_map.1 hx
    have := h y hy
    omega)
  simpa using this
theorem commit_nil {S : DS} {seq : Int} : commitS S seq [] = (0, seq, S) := by
  have hb := pagesOf_bounds (S.n : Int)
  rw [commitS_not (.inr rfl)]
  have : rightE S [] = 0 := by
    unfold rightE
    rw [if_neg (by show ¬ ((0 : Nat) : Int) > pagesOf _; omega), if_pos ⟨(fun x hx => by cases hx), List.nodup_nil⟩]
  rw [this]
/-- How many sectors a commit of so many images writes. -/
def wantW (n : Nat) : Nat := if n = 0 then 0 else 2 * n + 1
/-- A commit, of no image too. -/
theorem free_commit_all {S : DS} {f : Nat → List Int} {n seq : Int} {l : List (Int × List Int)} (hn : n = S.n) (hn3 : 3 ≤ n) (hI : Imgs n seq l) (h : Free S) (hR : Rests S f) :
    (commitS S seq l).1 = 0 ∧ (commitS S seq l).2.2.n = S.n ∧ Free (commitS S seq l).2.2 ∧ (commitS S seq l).2.2.writes = S.writes + wantW l.length := by
  by_cases hne : l = []
  · subst hne
    rw [commit_nil]
    exact ⟨rfl, rfl, h, rfl⟩
  · obtain ⟨h1, h2, h3, h4, h5, h6⟩ := free_commit hn hn3 hI hne h hR
    refine ⟨h1, h4, h3, ?_⟩
    rw [h5]
    unfold wantW
    rw [if_neg (fun e => hne (List.eq_nil_of_length_eq_zero e))]

end Go.Proofs.YtkpmfobmlaldfaaGreatDoor

/-
  Plain: a crash in the middle of a commit leaves all its pages or none. No program.
-/
namespace Go.Proofs.YtkpmfobmlaldfaaGreatDoor
open Go.RowKit
set_option maxRecDepth 100000
set_option linter.unusedVariables false

section
variable {S : DS} {f g : Nat → List Int} {n seq : Int}

/-- A disk that rests on an image which reads as it does when it is opened. -/
structure Set_ (S : DS) (f : Nat → List Int) (seq : Int) : Prop where
  rests : Rests S f
  opn : opened S.n f = f
  err : (unpackR (f 0)).2.2.2 = 0
  num : (unpackR (f 0)).2.1 = seq

theorem opened_zero (hn : 0 ≤ pagesOf n) (f : Nat → List Int) : opened n f 0 = f 0 := by
  rcases h : listed n f with _ | l
  · rw [opened_none h]
  · rw [opened_some h, putH_far _ _ (fun x hx e => by have := (listed_mem h x hx).1.1; omega)]
theorem Free.fuse_crash (S : DS) (k : List Int) : Free (S.crash k) := ⟨rfl, rfl⟩
theorem Rests.fuse (h : Rests S f) (k : Int) : Rests (S.fuse k) f := ⟨h.safe, h.last, h.up⟩
theorem Set_.fuse (h : Set_ S f seq) (k : Int) : Set_ (S.fuse k) f seq := ⟨h.rests.fuse k, h.opn, h.err, h.num⟩

/-- From a crash on: Open (wherever the disk goes down), a crash, Open. -/
theorem atomic_tail (hn : n = S.n) (hn3 : 3 ≤ n) (hR : Rests S g) (hm : (unpackR (g 0)).2.2.2 = 0) (k : Int) (kept : List Int) :
    (openS ((openS (S.fuse k)).2.2.crash kept)).1 = 0 ∧ (openS ((openS (S.fuse k)).2.2.crash kept)).2.2.n = S.n ∧ Free (openS ((openS (S.fuse k)).2.2.crash kept)).2.2 ∧ Set_ (openS ((openS (S.fuse k)).2.2.crash kept)).2.2 (opened n g) (unpackR (g 0)).2.1 := by
  have hnn := (pagesOf_nn n).1
  obtain ⟨g', h1, h2, h3, h4⟩ := open_leaves (n := n) (S := S.fuse k) hn (hR.fuse k) hm kept
  obtain ⟨o1, o2, o3, o4, o5⟩ := open_free (n := n) (S := (openS (S.fuse k)).2.2.crash kept) (by rw [h4]; exact hn) hn3 (Free.fuse_crash _ _) h1 (by rw [h2]; exact hm)
  refine ⟨o1, o5.trans h4, o4, ?_⟩
  have hz := opened_zero hnn g
  rw [h3] at o3
  refine ⟨o3, ?_, by rw [hz]; exact hm, by rw [hz]⟩
  rw [o5.trans h4, show ((S.fuse k).n : Int) = n from hn.symm]
  exact opened_twice hnn g

/-- All pages of a commit are there, or none. -/
theorem atomic_plain {l : List (Int × List Int)} (hn : n = S.n) (hn3 : 3 ≤ n) (hI : Imgs n seq l) (hS : Set_ S f seq) (keep : List Int) (k : Int) (kept : List Int) :
    ∃ g, (openS ((openS ((((commitS S seq l).2.2).crash keep).fuse k)).2.2.crash kept)).1 = 0 ∧ (openS ((openS ((((commitS S seq l).2.2).crash keep).fuse k)).2.2.crash kept)).2.2.n = S.n ∧ Free (openS ((openS ((((commitS S seq l).2.2).crash keep).fuse k)).2.2.crash kept)).2.2 ∧
      (∃ s, Set_ (openS ((openS ((((commitS S seq l).2.2).crash keep).fuse k)).2.2.crash kept)).2.2 g s) ∧
      (((∀ x ∈ l, pageIn n g x.1 = x.2) ∧ ∀ p, 0 ≤ p → p < pagesOf n → (∀ x ∈ l, x.1 ≠ p) → pageIn n g p = pageIn n f p) ∨ ((commitS S seq l).1 ≠ 0 ∧ ∀ p, 0 ≤ p → p < pagesOf n → pageIn n g p = pageIn n f p)) := by
  have hnn := (pagesOf_nn n).1
  have hop : opened n f = f := by have := hS.opn; rw [← hn] at this; exact this
  by_cases hne : l = []
  · subst hne
    rw [commit_nil]
    obtain ⟨h1, h2⟩ := (hS.rests.both (fun _ _ => False)).crash keep
    have e : (S.crash keep).last = f := by
      funext i
      rcases h1 i with e | e
      · exact e
      · exact e.elim
    rw [e] at h2
    obtain ⟨t1, t2, t3, t4⟩ := atomic_tail (S := S.crash keep) (n := n) hn hn3 h2 hS.err k kept
    rw [hop] at t4
    exact ⟨f, t1, t2, t3, ⟨_, t4⟩, .inl ⟨(fun x hx => by cases hx), fun p _ _ _ => rfl⟩⟩
  · obtain ⟨g1, g2⟩ := commit_leaves hn hI hne hS.rests
    have hn' : n = ((commitS S seq l).2.2.crash keep).n := by show n = ((commitS S seq l).2.2.n : Int); rw [g1]; exact hn
    have hpage : ∀ a b : Nat → List Int, (∀ j : Nat, pagesOf n < j → a j = b j) → ∀ p, 0 ≤ p → p < pagesOf n → pageIn n a p = pageIn n b p := fun a b h p hp _ => by
      unfold pageIn
      rw [h _ (by omega)]
    rcases g2 with ⟨he, hB⟩ | ⟨hB, _⟩
    · obtain ⟨h1, h2⟩ := hB.crash keep
      obtain ⟨v1, v2⟩ := view_slots hI hS.num hop h1
      obtain ⟨t1, t2, t3, t4⟩ := atomic_tail (n := n) hn' hn3 h2 (by rw [v1]; exact hS.err) k kept
      exact ⟨_, t1, t2.trans g1, t3, ⟨_, t4⟩, .inr ⟨he, hpage _ _ v2⟩⟩
    · obtain ⟨h1, h2⟩ := hB.crash keep
      obtain ⟨m1, m2, m3⟩ := view_marked (f := f) hI
      obtain ⟨p1, p2⟩ := opened_part hnn m2 h1
      have hz := homeW_far (fun x hx => (listed_mem m2 x hx).1.1) h1 hnn (j := 0) (by omega)
      obtain ⟨t1, t2, t3, t4⟩ := atomic_tail (n := n) hn' hn3 h2 (by rw [hz, m1]) k kept
      rw [p2, opened_some m2] at t4
      exact ⟨_, t1, t2.trans g1, t3, ⟨_, t4⟩, .inl (pages_marked hI)⟩

/-- The log behind the first commit. -/
theorem first_set {m : Nat} {l : List (Int × List Int)} (hn : (m : Int) = S.n) (hn3 : 3 ≤ (m : Int)) (hI : Imgs m 1 l) (hF : Free S) (hR : Rests S fresh1) :
    (commitS S 1 l).1 = 0 ∧ (commitS S 1 l).2.2.n = S.n ∧ Free (commitS S 1 l).2.2 ∧ (commitS S 1 l).2.2.writes = S.writes + wantW l.length ∧ (1 ≤ (commitS S 1 l).2.1 ∧ (commitS S 1 l).2.1 ≤ 2) ∧ ∃ f, Set_ (commitS S 1 l).2.2 f (commitS S 1 l).2.1 := by
  obtain ⟨a1, a2, a3, a4⟩ := free_commit_all hn hn3 hI hF hR
  have hnn := (pagesOf_nn (m : Int)).1
  refine ⟨a1, a2, a3, a4, ?_⟩
  by_cases hne : l = []
  · subst hne
    rw [commit_nil]
    exact ⟨⟨by show (1 : Int) ≤ 1; omega, by show (1 : Int) ≤ 2; omega⟩, fresh1, hR, by rw [← hn]; exact (fresh1_opened _).2, by rw [fresh1_mark], by rw [fresh1_mark]⟩
  · obtain ⟨h1, h2, h3, h4, h5, h6⟩ := free_commit hn hn3 hI hne hF hR
    refine ⟨by rw [h2]; omega, _, h6, ?_, ?_, ?_⟩
    · rw [h4, ← hn]
      obtain ⟨m1, m2, m3⟩ := view_marked (f := fresh1) hI
      rw [← opened_some m2]
      exact opened_twice hnn _
    · obtain ⟨m1, m2, m3⟩ := view_marked (f := fresh1) hI
      rw [putH_far _ _ (fun x hx e => by have := (hI.mem hx).1.1; omega), m1]
    · obtain ⟨m1, m2, m3⟩ := view_marked (f := fresh1) hI
      rw [putH_far _ _ (fun x hx e => by have := (hI.mem hx).1.1; omega), m1, h2]

theorem homes_more (S : DS) (l : List (Int × List Int)) : (homesS S l).2.writes ≤ S.writes + l.length := by
  rw [← putS_homes]
  have := (putS_more (atHomes S.P l) S).1
  simpa [atHomes] using this
theorem open_more (S : DS) : (openS S).2.2.writes ≤ S.writes + 32767 ∧ (openS S).2.2.n = S.n := by
  unfold openS
  split
  · exact ⟨Nat.le_add_right _ _, rfl⟩
  split
  · exact ⟨Nat.le_add_right _ _, rfl⟩
  split
  · exact ⟨Nat.le_add_right _ _, rfl⟩
  · rename_i l hl
    have h1 := homes_more S l
    have h2 := (slotsOf_pages hl).2
    have h3 := P_homes l S
    split
    · exact ⟨by show (homesS S l).2.writes ≤ _; omega, h3⟩
    · exact ⟨by show (homesS S l).2.writes ≤ _; omega, h3⟩
theorem commit_more {l : List (Int × List Int)} (hn : n = S.n) (hI : Imgs n seq l) : (commitS S seq l).2.2.writes ≤ S.writes + (2 * l.length + 1) ∧ (commitS S seq l).2.2.n = S.n ∧ seq ≤ (commitS S seq l).2.1 ∧ (commitS S seq l).2.1 ≤ seq + 1 := by
  have hP : S.P = pagesOf n := by unfold DS.P; rw [hn]
  have hfew := hI.few
  have h4 := (pagesOf_nn n).2.2
  have h0 := hI.seq0
  have h1 := hI.seq1
  have hright : rightS S l := ⟨fun x hx => by rw [hP]; exact hI.page x hx, hI.once⟩
  have he : rightE S l = 0 := by unfold rightE; rw [if_neg (by rw [hP]; omega), if_pos hright]
  have hsec : secR l.length (seq + 1) = true := decide_eq_true ⟨by omega, by omega, by omega, by omega⟩
  by_cases hne : l = []
  · subst hne
    rw [commit_nil]
    exact ⟨Nat.le_add_right _ _, rfl, Int.le_refl _, by show seq ≤ seq + 1; omega⟩
  rw [commitS_is he hne]
  have p1 := putS_more (atSlots 0 (packs (seq + 1) l)) S
  rw [atSlots_length, packs_length] at p1
  unfold commitP
  split
  · exact ⟨by show (putS S _).2.writes ≤ _; omega, p1.2, Int.le_refl _, by show seq ≤ seq + 1; omega⟩
  generalize (putS S (atSlots 0 (packs (seq + 1) l))).2 = S3 at p1 ⊢
  have p2 := putS_more [(0, secL l.length (seq + 1) zpage)] S3
  rw [mark_put _ hsec] at p2
  have p2' : (markS S3 l.length (seq + 1)).2.writes ≤ S3.writes + 1 := p2.1
  unfold commitM
  split
  · exact ⟨by show (markS S3 _ _).2.writes ≤ _; omega, p2.2.trans p1.2, Int.le_refl _, by show seq ≤ seq + 1; omega⟩
  have p3 := homes_more (markS S3 l.length (seq + 1)).2 (packs (seq + 1) l)
  rw [packs_length] at p3
  exact ⟨by show (homesS _ _).2.writes ≤ _; omega, (P_homes _ _).trans (p2.2.trans p1.2), by show seq ≤ seq + 1; omega, Int.le_refl _⟩
end

end Go.Proofs.YtkpmfobmlaldfaaGreatDoor

/-
  Contracts of the program's pager's New and Commit. Conditions: those of the log's.
-/
namespace Go.Proofs.YtkpmfobmlaldfaaGreatDoor
open Go.RowKit
set_option maxRecDepth 100000
set_option linter.unusedVariables false

section
variable {D : World → (Nat → Prop) → Addr → DS → Prop} {w w' : World} {F O : Nat → Prop} {p : Addr} {S : DS} {q r b : Nat} {seq : Int} {L : List (Int × List Int)}

/-- The blocks of a new pager. -/
def pgO (F : Nat → Prop) (q r b : Nat) (k : Nat) : Prop := F k ∨ k = q ∨ k = r ∨ k = b
set_option maxHeartbeats 400000 in
theorem pnew_any (api : DiskApi D) (hd : D w F p S) (hq : PLog w q p seq) (hqF : ¬ F q) (hp : 0 < pagesOf S.n) : Calls Tryz.prog 26 #[.pointer (some ⟨q, 0, none⟩)] w fun e w' => ∃ r b, e = .returned (.tuple #[.pointer (some ⟨r, 0, none⟩), .int .i64 0]) ∧ w.heap.size ≤ r ∧ w.heap.size ≤ b ∧ PgAt D w' F (pgO F q r b) p S q seq r b [] ∧ Below w.heap.size w w' := by
  have HP := Lib.hid (pages_same api hd hq)
  have hlt := api.lt _ _ _ _ hd
  have hql := hq.cells.2.2.2
  have k1 : (pagesOf S.n == 0) = false := by simp; omega
  have hX : Below w.heap.size w ((w.alloc (.map #[] 0)).alloc (.cells #[.pointer (some ⟨q, 0, none⟩), .map (some w.heap.size)] 52)) := ((Below.refl _ _).alloc (Nat.le_refl _) _).alloc (by simp) _
  have hblk : ((w.alloc (.map #[] 0)).alloc (.cells #[.pointer (some ⟨q, 0, none⟩), .map (some w.heap.size)] 52)).heap[w.heap.size + 1]? = some (.cells #[.pointer (some ⟨q, 0, none⟩), .map (some w.heap.size)] 52 (0, 0)) := by
    have := heap_alloc_new (w.alloc (.map #[] 0)) (.cells #[.pointer (some ⟨q, 0, none⟩), .map (some w.heap.size)] 52)
    simpa using this
  have hm : IMap ((w.alloc (.map #[] 0)).alloc (.cells #[.pointer (some ⟨q, 0, none⟩), .map (some w.heap.size)] 52)) w.heap.size 0 (fun _ => none) := (IMap.made w).of_block (heap_alloc_old _ _ (by simp))
  have hsX : ((w.alloc (.map #[] 0)).alloc (.cells #[.pointer (some ⟨q, 0, none⟩), .map (some w.heap.size)] 52)).heap.size = w.heap.size + 2 := by simp
  have HE := Lib.hid (show PgAt D ((w.alloc (.map #[] 0)).alloc (.cells #[.pointer (some ⟨q, 0, none⟩), .map (some w.heap.size)] 52)) F (pgO F q (w.heap.size + 1) w.heap.size) p S q seq (w.heap.size + 1) w.heap.size [] from
    ⟨api.below hd hX, hq.below hX, hblk, hqF, fun hf => by have := hlt _ hf; omega, fun hf => by have := hlt _ hf; omega, by omega, fun k hk => hk, fun k hk => by
      rw [hsX]
      rcases hk with a | a | a | a
      · have := hlt k a; omega
      · omega
      · omega
      · omega, ⟨_, hm, fun i => ⟨fun _ => rfl, fun l hl => by cases hl⟩⟩, List.Pairwise.nil, fun x hx => by cases hx⟩)
  have HX := Lib.hid hX
  have hmk := @run_makeMap Tryz.prog
  clear hd hq hX hblk hm hsX
  go_enter Tryz.func26, Tryz.ntmps26
  go_wp2_with fail
  refine HP.out.mono ?_
  rintro e w1 ⟨rfl, hw⟩
  have hw := hw.symm
  subst hw
  go_wp2
  go_ret2
  exact ⟨w.heap.size + 1, w.heap.size, rfl, Nat.le_succ _, Nat.le_refl _, HE.out, HX.out⟩

theorem imgs_of (h : Rising L) (h2 : AllSet S L) (hs : 0 ≤ seq ∧ seq < 4611686018427387904) : Imgs S.n seq L :=
  ⟨fun x hx => ⟨(h2 x hx).1, (h2 x hx).2.1, (h2 x hx).2.2.1⟩, fun x hx => (h2 x hx).2.2.2, h.nodup, few_set h h2, hs.1, hs.2⟩
theorem commit_n (h : Rising L) (h2 : AllSet S L) (hs : 0 ≤ seq ∧ seq < 4611686018427387904) : (commitS S seq L).2.2.n = S.n := (commit_more (n := S.n) rfl (imgs_of h h2 hs)).2.1

/-- The log has committed; what was set stands still. -/
theorem PgAt.committed (api : DiskApi D) (h : PgAt D w F O p S q seq r b L) {F' : Nat → Prop} {S' : DS} {seq' : Int} (hn : S'.n = S.n) (hd : D w' F' p S') (hl : PLog w' q p seq') (hqF : ¬ F' q) (ht : Touch (orAt F q) w w') (hF : ∀ k, F' k → F k ∨ w.heap.size ≤ k) : PgAt D w' F' (fun k => O k ∨ F' k) p S' q seq' r b L := by
  have hrl := h.cells.2.2
  obtain ⟨f, hf, hset⟩ := id h.set
  have hbl := hf.lt
  have hbq : b ≠ q := fun e => by
    obtain ⟨es, c, e2⟩ := hf.block
    have := h.log
    unfold PLog at this
    rw [← e, e2] at this
    cases this
  have hP : S'.P = S.P := by unfold DS.P; rw [hn]
  refine ⟨hd, hl, (ht.block r hrl (fun a => a.elim h.rF h.rq)).trans h.me, hqF, fun a => ?_, fun a => ?_, h.rq, fun k hk => ?_, fun k hk => ?_, h.set.keep ht.size (ht.block b hbl (fun a => a.elim h.bF hbq)) (fun g hg _ hx => ht.block g hg (fun a => a.elim (fun a => hx (.inl a)) (fun a => hx (.inr (.inl a))))) (fun g hg _ hx a => ?_) (fun g ho => .inl ho), h.up, fun x hx => by rw [hP]; exact h.all x hx⟩
  · rcases hF r a with a | a
    · exact h.rF a
    · omega
  · rcases hF b a with a | a
    · exact h.bF a
    · omega
  · rcases hk with a | a
    · exact .inr a
    · exact .inl (h.own k (.inr a))
  · rcases hk with a | a
    · exact Nat.lt_of_lt_of_le (h.lt k a) ht.size
    · exact api.lt _ _ _ _ hd k a
  · rcases a with a | a
    · rcases hF g a with a | a
      · exact hx (.inl a)
      · omega
    · exact hx (.inr a)

/-- A Commit's end. -/
def PgDone (D : World → (Nat → Prop) → Addr → DS → Prop) (w : World) (F O : Nat → Prop) (p : Addr) (S : DS) (q : Nat) (seq : Int) (r b : Nat) (L : List (Int × List Int)) (w' : World) : Prop :=
  ∃ F' O', PgAt D w' F' O' p (commitS S seq L).2.2 q (commitS S seq L).2.1 r b (leftPg S seq L) ∧ Touch O w w' ∧ (∀ k, F' k → F k ∨ w.heap.size ≤ k) ∧ ∀ k, O' k → O k ∨ w.heap.size ≤ k

set_option maxHeartbeats 4000000 in
theorem pcommit_any (api : DiskApi D) (h : PgAt D w F O p S q seq r b L) (ht : TabF w F) (hs : 0 ≤ seq ∧ seq < 4611686018427387904) (hw : S.writes ≤ 9223372036854500000) :
    Calls Tryz.prog 18 #[.pointer (some ⟨r, 0, none⟩)] w fun e w' => e = .returned (.int .i64 (commitS S seq L).1) ∧ PgDone D w F O p S q seq r b L w' := by
  obtain ⟨l0, l1, l2⟩ := h.cells
  have hpb := pagesOf_bounds (S.n : Int)
  have hfew := few_set h.up h.all
  have hL : L.length ≤ 32767 := by unfold DS.P at hfew; omega
  have hcn := commit_n h.up h.all hs
  have HM := Lib.hid (pmade_any h)
  have HCH := Lib.hid (pchanged_any api h)
  have HH := Lib.hid (fun w1 (hb : Below w.heap.size w w1) => h.below api hb)
  have HT := Lib.hid (fun w1 (hb : Below w.heap.size w w1) => ht.below hb)
  have HOX := Lib.hid (fun k (hk : orAt F q k) => h.lt k (h.own k (hk.elim (fun a => .inl a) (fun a => .inr (.inl a)))))
  have HALL := Lib.hid h.all
  have HUP := Lib.hid h.up
  have HOL := Lib.hid h.lt
  have HOW := Lib.hid h.own
  clear h ht hfew hpb
  go_enter Tryz.func18, Tryz.ntmps18
  go_wp2_with fail
  refine HM.out.mono ?_
  rintro e w1 ⟨rfl, rfl⟩
  go_wp2_with fail
  refine HCH.out.mono ?_
  rintro e w1 ⟨A, c, rfl, hc, hri, hb1⟩
  have HB1 := Lib.hid hb1
  have HRI := Lib.hid hri
  clear hb1 hri HCH HM
  go_wp2_with fail
  go_loopw [3, 13] (fun ov i wr => ∃ k : Nat, k ≤ L.length ∧ i = .int .i64 k ∧ Hid (PRow 101 240 wr (orAt F q) w1.heap.size ov (L.take k)) ∧ Hid (Below w1.heap.size w1 wr)) (fun _ i _ => L.length - (intOf i).toNat)
  case atStart => exact ⟨0, Nat.zero_le _, rfl, Lib.hid (PRow.start _ _ _ _ _), Lib.hid (Below.refl _ _)⟩
  case round =>
    obtain ⟨k, hk, rfl, hrow, hbw⟩ := hrel
    have hb0 := HB1.out.trans (hbw.out.mono HB1.out.size)
    by_cases hlt : k < L.length
    · have hlt' : (k : Int) < (L.length : Int) := by omega
      obtain ⟨bb, off, rfl, hbb, hcell⟩ := HRI.out.2.2 (by omega)
      have hck := (hbw.out.cell (p := ⟨bb, off + k, none⟩) hbb).trans (hcell k hlt)
      have hPg := HH.out wr hb0
      obtain ⟨f, hf, hset⟩ := hPg.set
      obtain ⟨y, hkk⟩ : ∃ y, L[k]? = some y := ⟨_, List.getElem?_eq_getElem hlt⟩
      have hmem : y ∈ L := List.mem_of_getElem? hkk
      have HTK : L.take (k + 1) = L.take k ++ [(y.1, y.2)] := by
        rw [List.take_succ_eq_append_getElem hlt]
        have := (List.getElem?_eq_some_iff.1 hkk).2
        rw [this]
      obtain ⟨a1, a2, a3, a4⟩ := HALL.out _ hmem
      obtain ⟨g, c1, e1, hc1, hrg, hgX, hgO⟩ := (hset y.1).2 y.2 (HUP.out.at_ hmem)
      have hpb := pagesOf_bounds (S.n : Int)
      have hib : -9223372036854775808 ≤ y.1 ∧ y.1 ≤ 9223372036854775807 := by unfold DS.P at a2; omega
      have qlk := hf.get Tryz.underlying50 (zero_slice wr) hib e1
      have hge : (L.map (·.1))[k]?.getD 0 = y.1 := by rw [List.getElem?_map, hkk]; rfl
      rw [hge] at hck
      have l1w := (hb0.cell (p := ⟨r, 1, none⟩) l2).trans l1
      have hgl : g < w.heap.size := HOL.out g hgO
      have hgw : g < wr.heap.size := Nat.lt_of_lt_of_le hgl hb0.size
      obtain ⟨A0, c0, rfl, hAc, _⟩ := hrow.out.imgs (by decide)
      obtain ⟨vs, hvs, hvl⟩ := hrow.out.row
      have hX : Below wr.heap.size wr (wr.alloc (.cells #[.int .i64 y.1, .slice (some ⟨g, 0, none⟩) 240 c1] 101)) := (Below.refl _ _).alloc (Nat.le_refl _) _
      have hvsX := own_stays hvs (fun r hr => hX.block r (own_at hvs r hr).2)
      have hbk := heap_alloc_new wr (.cells #[.int .i64 y.1, .slice (some ⟨g, 0, none⟩) 240 c1] 101)
      have hno : (Value.slice A0 (L.take k).length c0).ownBlock ≠ some g := fun e => by
        have := (own_at hvs g e).1
        have := HB1.out.size
        omega
      have hfar : Far wr (orAt F q) (.slice A0 (L.take k).length c0) (.slice (some ⟨g, 0, none⟩) 240 c1) 240 y.2 := ⟨g, c1, rfl, hc1, fun hf => hgX (hf.elim (fun a => .inl a) (fun a => .inr (.inl a))), hno, hgw, hrg⟩
      have HPU := Lib.hid (fun (w3 : World) (A' : Option Addr) (c' : Nat) h1 h2 h3 => hrow.out.push (v' := .slice A' ((L.take k).length + 1) c') (w1 := w3) (x := y.1) (by decide) (fun k hk => Nat.lt_of_lt_of_le (HOX.out k hk) hb0.size) hfar hvs hvl hX h1 h2 h3)
      have HOV := Lib.hid (fun r hr => (own_at hvs r hr).1)
      have HTL : (L.take k).length = k := by rw [List.length_take]; omega
      have HTKH := Lib.hid HTK
      have hk64 : (L.take k).length ≤ 4294967296 := by omega
      have HX := Lib.hid hX
      have HB0 := Lib.hid hb0
      have hb0s := hb0.size
      have hbws := hbw.out.size
      clear hcell hPg hset hf hkk hmem a1 a2 a3 a4 hrg hgX hgO hge hrow hfar hvl hno hX hib hpb hb0 HTK HTL e1
      generalize L.take k = LL at *
      generalize y.1 = y1 at *
      generalize y.2 = y2 at *
      go_wp2_with (at_builtin; refine wpList_append_two rfl _ _ 39 101 rfl Tryz.underlying39 info_image w1.heap.size (.slice A0 LL.length c0) LL.length vs rfl wr.heap.size (.int .i64 y1) (.slice (some ⟨g, 0, none⟩) 240 c1) 101 rfl hvsX hbk rfl rfl (by omega) (by simp; omega) ?_; intro A4 c4 w4 hown4 hg4 hl4; have HO4 := Lib.hid (And.intro hown4 (And.intro hg4 hl4)); clear hown4 hg4 hl4)
      obtain ⟨q1, q2, q3⟩ := HPU.out w4 A4 c4 HO4.out.1 HO4.out.2.1 (by
        rcases HO4.out.2.2 with a | a
        · exact .inl a
        · exact .inr ⟨_, a, by simp⟩)
      have hb4 : Below w1.heap.size w1 w4 := (hbw.out.trans (HX.out.mono hbw.out.size)).grown HO4.out.2.1 (by have := HX.out.size; have := hbw.out.size; omega) HOV.out
      have HRE := Lib.hid (And.intro q1 hb4)
      clear q1 q2 q3 hb4 hvsX hbk HO4 HPU hvs
      go_roundw
      case rel => exact ⟨k + 1, by omega, by go_num, Lib.hid (HTKH.out ▸ HRE.out.1), Lib.hid HRE.out.2⟩
      case measure => simp [intOf]; omega
    · obtain rfl : k = L.length := by omega
      have hrow2 := hrow.out
      rw [List.take_length] at hrow2
      obtain ⟨A0, c0, rfl, hAc, him⟩ := hrow2.imgs (by decide)
      have hPg := HH.out wr hb0
      have l0w := (hb0.cell (p := ⟨r, 0, none⟩) l2).trans l0
      have HCM := Lib.hid (commit_any (c := c0) api hPg.d hPg.log hPg.qF (HT.out wr hb0) him (fun y hy => (HALL.out y hy).2.2.2) (fun y hy => by
        have a := HALL.out y hy
        have hpb := pagesOf_bounds (S.n : Int)
        unfold DS.P at a
        omega) (by omega) hs hw)
      have HPG := Lib.hid (And.intro hPg hb0)
      clear hrow hrow2 him hPg hbw hb0
      go_wp2_with fail
      refine HCM.out.mono ?_
      rintro e w5 ⟨rfl, F', d5, hl5, hq5, t5, n5⟩
      have h5 := HPG.out.1.committed api hcn d5 hl5 hq5 t5 n5
      have hT5 : Touch O w w5 := ⟨t5.os.trans HPG.out.2.os, t5.tape.trans HPG.out.2.tape, t5.output.trans HPG.out.2.output, Nat.le_trans HPG.out.2.size t5.size, fun k hk hn => (t5.block k (Nat.lt_of_lt_of_le hk HPG.out.2.size) (fun a => hn (HOW.out k (a.elim (fun a => .inl a) (fun a => .inr (.inl a)))))).trans (HPG.out.2.block k hk)⟩
      have hN5 : ∀ k, F' k → F k ∨ w.heap.size ≤ k := fun k hk => (n5 k hk).imp id (fun a => Nat.le_trans HPG.out.2.size a)
      have hO5 : ∀ k, (O k ∨ F' k) → O k ∨ w.heap.size ≤ k := fun k hk => hk.elim .inl (fun a => (hN5 k a).imp (fun a => HOW.out k (.inl a)) id)
      by_cases hc0 : (commitS S seq L).1 = 0
      · have kne : ((commitS S seq L).1 != 0) = false := by simpa using hc0
        obtain ⟨f, hf, hset⟩ := h5.set
        obtain ⟨w6, hrun6, hm6, hg6⟩ := hf.clear_ Tryz.underlying50 0
        obtain ⟨_, l15, _⟩ := h5.cells
        have hleft : leftPg S seq L = [] := if_pos hc0
        have HE := Lib.hid (show PgDone D w F O p S q seq r b L w6 from by
          refine ⟨F', _, by rw [hleft]; exact h5.empty api hm6 hg6, ?_, hN5, hO5⟩
          have t6 := touch_grown (X := O) hg6 (HOW.out b (.inr (.inr (.inr rfl))))
          exact ⟨t6.os.trans hT5.os, t6.tape.trans hT5.tape, t6.output.trans hT5.output, Nat.le_trans hT5.size t6.size, fun k hk hn => (t6.block k (Nat.lt_of_lt_of_le hk hT5.size) hn).trans (hT5.block k hk hn)⟩)
        have HC0 := Lib.hid hc0
        clear hf hset hm6 hg6 h5 hT5 hN5 hO5 d5 hl5 t5 n5 hc0 hleft
        go_wp2
        go_ret
        rw [HC0.out]
        exact ⟨rfl, HE.out⟩
      · have kne : ((commitS S seq L).1 != 0) = true := by simpa using hc0
        have hleft : leftPg S seq L = L := if_neg hc0
        have HE := Lib.hid (show PgDone D w F O p S q seq r b L w5 from ⟨F', _, by rw [hleft]; exact h5, hT5, hN5, hO5⟩)
        clear h5 hT5 hN5 hO5 d5 hl5 t5 n5 hc0 hleft
        go_wp2
        go_ret
        exact ⟨rfl, HE.out⟩
end

end Go.Proofs.YtkpmfobmlaldfaaGreatDoor

/-
  append of one int, and of one slice, as a step of a region that draws. Condition: fewer than 2^42 elements.
-/
namespace Go.Proofs.YtkpmfobmlaldfaaGreatDoor
open Go.RowKit
set_option maxRecDepth 100000
set_option linter.unusedVariables false

theorem step_append_int1 {w : World} {ops : Array Oper} {o : Oper} {a : Act} {K : Act → World → Prop} {Q : Exit → Act → World → Prop} {E : Prop} (hgd : o.guard = none) (s x : Operand)
    (ho : o.op = .call { callee := .builtin .append, args := #[s, x], argTypes := #[43, 43] })
    (base : Nat) (v : Value) (n : Nat) (xs : List Value) (hs : a.eval s = v) (b : Nat) (z : Int) (T : TypeId) (hx : a.eval x = .slice (some ⟨b, 0, none⟩) 1 1)
    (hown : w.ownsRow base 3 1 v n xs) (hb : w.heap[b]? = some (.cells #[.int .i64 z] T)) (h63 : n ≤ 8796093022207) (hbase : base ≤ w.heap.size)
    (h : ∀ g c' w', w'.ownsRow base 3 1 (.slice (some ⟨g, 0, none⟩) (n + 1) c') (n + 1) (xs ++ [.int .i64 z]) → w.grownBy w' v.ownBlock → ((Value.slice (some ⟨g, 0, none⟩) (n + 1) c').ownBlock = v.ownBlock ∨ ∃ r, (Value.slice (some ⟨g, 0, none⟩) (n + 1) c').ownBlock = some r ∧ w.heap.size ≤ r) → K (a.put o.dst (.slice (some ⟨g, 0, none⟩) (n + 1) c')) w') :
    if Region.wanted o (yielded ops a.tmps) = true then Oper.wp Tryz.prog o a w K Q else E := by
  obtain ⟨i0, hi, hz0, hz1, hz2⟩ := info_parts info_int
  refine step_append_lies w hgd s x 43 ho base 3 i0 (.int .i64 0) 1 8 Tryz.underlying43 hi hz0 hz1 hz2 rfl (by decide) v n xs hs hown ⟨b, 0, none⟩ 1 1 [.int .i64 z] hx rfl (World.news_of_block (cs := #[.int .i64 z]) hb) (fun u hu => by obtain rfl := List.mem_singleton.1 hu; rfl) (by decide) (by unfold maxLen; omega) (by omega) hbase w.heap.size rfl ?_
  intro g cap w' h1 h2 h3 _
  refine h g cap w' h1 h2 ?_
  rcases h3 with e | e
  · exact .inl e.symm
  · exact .inr ⟨g, rfl, by omega⟩
theorem step_append_slice1 {w : World} {ops : Array Oper} {o : Oper} {a : Act} {K : Act → World → Prop} {Q : Exit → Act → World → Prop} {E : Prop} (hgd : o.guard = none) (s x : Operand)
    (ho : o.op = .call { callee := .builtin .append, args := #[s, x], argTypes := #[168, 168] })
    (base : Nat) (v : Value) (n : Nat) (xs : List Value) (hs : a.eval s = v) (b : Nat) (A : Option Addr) (k c : Nat) (T : TypeId) (hx : a.eval x = .slice (some ⟨b, 0, none⟩) 1 1)
    (hown : w.ownsRow base 32 1 v n xs) (hb : w.heap[b]? = some (.cells #[.slice A k c] T)) (h63 : n ≤ 4398046511103) (hbase : base ≤ w.heap.size)
    (h : ∀ g c' w', w'.ownsRow base 32 1 (.slice (some ⟨g, 0, none⟩) (n + 1) c') (n + 1) (xs ++ [.slice A k c]) → w.grownBy w' v.ownBlock → ((Value.slice (some ⟨g, 0, none⟩) (n + 1) c').ownBlock = v.ownBlock ∨ ∃ r, (Value.slice (some ⟨g, 0, none⟩) (n + 1) c').ownBlock = some r ∧ w.heap.size ≤ r) → K (a.put o.dst (.slice (some ⟨g, 0, none⟩) (n + 1) c')) w') :
    if Region.wanted o (yielded ops a.tmps) = true then Oper.wp Tryz.prog o a w K Q else E := by
  obtain ⟨i0, hi, hz0, hz1, hz2⟩ := info_parts info_slice
  refine step_append_lies w hgd s x 168 ho base 32 i0 (.slice none 0 0) 1 24 Tryz.underlying168 hi hz0 hz1 hz2 rfl (by decide) v n xs hs hown ⟨b, 0, none⟩ 1 1 [.slice A k c] hx rfl (World.news_of_block (cs := #[.slice A k c]) hb) (fun u hu => by obtain rfl := List.mem_singleton.1 hu; rfl) (by decide) (by unfold maxLen; omega) (by omega) hbase w.heap.size rfl ?_
  intro g cap w' h1 h2 h3 _
  refine h g cap w' h1 h2 ?_
  rcases h3 with e | e
  · exact .inl e.symm
  · exact .inr ⟨g, rfl, by omega⟩

end Go.Proofs.YtkpmfobmlaldfaaGreatDoor

/-
  Contract of the plain log's Commit, over the plain disk. Conditions: at most 65,536 images of bytes; a seq from 0 to 2^62 - 1; fewer than 2^63 - 1 writes.
-/
namespace Go.Proofs.YtkpmfobmlaldfaaGreatDoor
open Go.RowKit
set_option maxRecDepth 100000
set_option linter.unusedVariables false

theorem slotsS_cons (S : DS) (i : Int) (y : Int × List Int) (r : List (Int × List Int)) : slotsS S i (y :: r) = thenS (S.wr (i + 1) y.2) (fun S' => slotsS S' (i + 1) r) := by
  obtain ⟨p, b⟩ := y
  rfl

section
variable {w : World} {G : Nat → Prop} {x : Addr} {S : DS} {q : Nat} {seq : Int} {l : List (Int × List Int)}

/-! what commitS is, arm by arm -/
theorem commitS_full (h : (l.length : Int) > S.P) : commitS S seq l = (6, seq, S) := by unfold commitS; rw [if_pos h]
theorem commitS_wrong (h : ¬ (l.length : Int) > S.P) (h2 : ¬ rightS S l) : commitS S seq l = (1, seq, S) := by unfold commitS; rw [if_neg h, if_pos h2]
theorem commitS_none (h : ¬ (l.length : Int) > S.P) (h2 : rightS S l) (h3 : l = []) : commitS S seq l = (0, seq, S) := by unfold commitS; rw [if_neg h, if_neg (fun h' => h' h2), if_pos h3]
/-- What comes behind the slots. -/
def commitB (S : DS) (seq : Int) (l : List (Int × List Int)) (a : Int × DS) : Int × Int × DS :=
  if a.1 ≠ 0 then (a.1, seq, a.2) else
  if (markS a.2 l.length (seq + 1)).1 ≠ 0 then ((markS a.2 l.length (seq + 1)).1, seq, (markS a.2 l.length (seq + 1)).2) else
  ((homesS (markS a.2 l.length (seq + 1)).2 (packs (seq + 1) l)).1, seq + 1, (homesS (markS a.2 l.length (seq + 1)).2 (packs (seq + 1) l)).2)
theorem commitS_some (h : ¬ (l.length : Int) > S.P) (h2 : rightS S l) (h3 : l ≠ []) : commitS S seq l = commitB S seq l (thenS (slotsS S 0 (packs (seq + 1) l)) DS.fl) := by
  unfold commitS
  rw [if_neg h, if_neg (fun h' => h' h2), if_neg h3]
  rfl

/-- What Commit leaves: the disk, and the log with its seq. -/
def Committed (w : World) (G : Nat → Prop) (x : Addr) (q : Nat) (r : Int × Int × DS) (w' : World) : Prop :=
  ∃ G', RefAt w' G' x r.2.2 ∧ RLog w' q x r.2.1 ∧ ¬ G' q ∧ Touch (fun k => G k ∨ k = q) w w' ∧ ∀ k, G' k → G k ∨ w.heap.size ≤ k

theorem Committed.of {w' : World} {S' : DS} (hq : RLog w q x seq) (hqG : ¬ G q) (h : Wrote w G x S' w') {e : Int} : Committed w G x q (e, seq, S') w' := by
  obtain ⟨G', h1, h2, h3⟩ := h
  have hlt := hq.cells.2.2.2
  refine ⟨G', h1, hq.keep (h2.block q hlt hqG), fun hf => ?_, ⟨h2.os, h2.tape, h2.output, h2.size, fun k hk hF => h2.block k hk (fun hg => hF (.inl hg))⟩, h3⟩
  rcases h3 q hf with a | a
  · exact hqG a
  · omega

theorem putS_more' (l : List (Int × List Int)) : ∀ S : DS, (putS S l).2.writes ≤ S.writes + l.length ∧ (putS S l).2.n = S.n := by
  induction l with
  | nil =>
    intro S
    refine ⟨?_, P_flush S⟩
    show S.flush.writes ≤ _
    unfold DS.flush
    split <;> simp
  | cons y r ih =>
    intro S
    rw [putS_cons]
    have h1 := write_more S y.1 y.2
    by_cases h : (S.wr y.1 y.2).1 = 0
    · rw [thenS_ok h]
      have h2 := ih (S.wr y.1 y.2).2
      have e1 : (S.wr y.1 y.2).2.writes ≤ S.writes + 1 := h1.1
      have e2 : (S.wr y.1 y.2).2.n = S.n := h1.2
      rw [List.length_cons]
      exact ⟨by omega, h2.2.trans e2⟩
    · rw [thenS_no h, List.length_cons]
      exact ⟨by have : (S.wr y.1 y.2).2.writes ≤ S.writes + 1 := h1.1; omega, h1.2⟩
theorem mark_put' (S : DS) {c s : Int} (h : secR c s = true) : putS S [(0, secL c s zpage)] = markS S c s := (markS_sec S h).symm
/-- Kept over a call that writes to the disk alone. -/
theorem TwoRows.touchQ {w1 w2 : World} {G1 G2 : Nat → Prop} {base : Nat} {ov pv : Value} {l : List (Int × List Int)} (h : TwoRows w1 (orAt G1 q) base ov pv l) (ht : Touch G1 w1 w2) (hG : ∀ k, G2 k → G1 k ∨ w1.heap.size ≤ k) : TwoRows w2 (orAt G2 q) base ov pv l :=
  h.keep ht.size (fun k hk hn hf => by
    rcases hf with a | a
    · rcases hG k a with b | b
      · exact hn (.inl b)
      · omega
    · exact hn (.inr a)) (fun k hk hn => ht.block k hk (fun hf => hn (.inl hf)))
/-- Between two rounds of the slots. -/
def SlotMid (q : Nat) (w : World) (G : Nat → Prop) (x : Addr) (S : DS) (ps : List (Int × List Int)) (ov pv : Value) (k : Nat) (wr : World) : Prop :=
  ∃ G' S', RefAt wr G' x S' ∧ Touch G w wr ∧ (∀ j, G' j → G j ∨ w.heap.size ≤ j) ∧ slotsS S 0 ps = slotsS S' k (ps.drop k) ∧ TwoRows wr (orAt G' q) w.heap.size ov pv (ps.take k) ∧ S'.n = S.n ∧ S'.writes ≤ S.writes + k

/-- A round of the slots: both lists have one more. -/
theorem SlotMid.put {w4 Xa w1 Xb w2 : World} {G2 : Nat → Prop} {S2 : DS} {ps : List (Int × List Int)} {k : Nat} {ov pv ov' pv' : Value} {p : Int} {b : List Int} {g c : Nat} {vs : List Value} (hql : q < w.heap.size)
    (hR : RefAt w4 G2 x S2) (hT : Touch G w w4) (hG : ∀ j, G2 j → G j ∨ w.heap.size ≤ j) (he : slotsS S 0 ps = slotsS S2 ((k : Int) + 1) (ps.drop (k + 1))) (hy : ps[k]? = some (p, b)) (hn : S2.n = S.n) (hw : S2.writes ≤ S.writes + (k + 1))
    (h : TwoRows w4 (orAt G2 q) w.heap.size ov pv (ps.take k)) (hk : (ps.take k).length = k) (hap : Apart w4 (orAt G2 q) ov pv (.slice (some ⟨g, 0, none⟩) 256 c) b) (hvs : w4.ownsRow w.heap.size 32 1 ov k vs) (hvl : ∀ (i : Nat) (x : Int × List Int), (ps.take k)[i]? = some x → ∃ u, vs[i]? = some u ∧ Apart w4 (orAt G2 q) ov pv u x.2)
    (hXa : Below w4.heap.size w4 Xa) (hown1 : w1.ownsRow w.heap.size 32 1 ov' (k + 1) (vs ++ [.slice (some ⟨g, 0, none⟩) 256 c])) (hg1 : Xa.grownBy w1 ov.ownBlock) (hl1 : ov'.ownBlock = ov.ownBlock ∨ ∃ r, ov'.ownBlock = some r ∧ Xa.heap.size ≤ r)
    (hXb : Below w1.heap.size w1 Xb) (hown2 : w2.ownsRow w.heap.size 3 1 pv' (k + 1) (((ps.take k).map (·.1)).map (Value.int .i64) ++ [Value.int .i64 p])) (hg2 : Xb.grownBy w2 pv.ownBlock) (hl2 : pv'.ownBlock = pv.ownBlock ∨ ∃ r, pv'.ownBlock = some r ∧ Xb.heap.size ≤ r) :
    SlotMid q w G x S ps ov' pv' (k + 1) w2 := by
  obtain ⟨hrw, hsz, hall⟩ := h.push2 (p := p) (ov' := ov') (pv' := pv') (fun k hk => by
    rcases hk with a | a
    · exact hR.lt k a
    · have := hT.size; omega) hap (by rw [hk]; exact hvs) hvl hXa (by rw [hk]; exact hown1) hg1 (hl1.imp id (fun ⟨r, a, b⟩ => ⟨r, a, Nat.le_trans hXa.size b⟩)) hXb (by rw [hk, List.map_append]; exact hown2) hg2 (hl2.imp id (fun ⟨r, a, b⟩ => ⟨r, a, Nat.le_trans hXb.size b⟩))
  refine ⟨G2, S2, hR.keep (fun j hj => hall j (hR.lt j hj) (fun e => h.og j e (.inl hj)) (fun e => h.pg j e (.inl hj))), ⟨hg2.os.trans (hXb.os.trans (hg1.os.trans (hXa.os.trans hT.os))), hg2.tape.trans (hXb.tape.trans (hg1.tape.trans (hXa.tape.trans hT.tape))), hg2.output.trans (hXb.output.trans (hg1.output.trans (hXa.output.trans hT.output))), Nat.le_trans hT.size hsz, fun j hj hF => (hall j (Nat.lt_of_lt_of_le hj hT.size) (fun e => by have := (own_at hvs j e).1; omega) (fun e => by have := (own_at h.pages j e).1; omega)).trans (hT.block j hj hF)⟩, hG, he, ?_, hn, hw⟩
  rw [List.take_add_one, hy]
  exact hrw

theorem refPack_sl (A : Option Addr) (n c B : Nat) (l : List Int) (p s : Int) (w : World) (hr : RB w B A n l) (hB : B ≤ w.heap.size) (hn : n = 240) (hs : secR p s = true) :
    Calls Tryz.prog 107 #[.int .i64 p, .int .i64 s, .slice A n c] w fun e w' => ∃ g cg, e = .returned (.tuple #[.slice (some ⟨g, 0, none⟩) 256 cg, .int .i64 0]) ∧ 256 ≤ cg ∧ w.heap.size ≤ g ∧ RB w' w'.heap.size (some ⟨g, 0, none⟩) 256 (secL p s l) ∧ Below w.heap.size w w' := by
  refine (refPack_yes A n c B l p s w hr hB hn hs).mono ?_
  rintro e w' ⟨v, rfl, hown, hb⟩
  obtain ⟨g, cg, rfl, hc, hg⟩ := own_some hown (by decide)
  exact ⟨g, cg, rfl, hc, hg, RB.of_own hown (secL_bytes p s hr.bytes), hb⟩

theorem SlotMid.start {ps : List (Int × List Int)} (h : RefAt w G x S) : SlotMid q w G x S ps (.slice none 0 0) (.slice none 0 0) 0 w :=
  ⟨G, S, h, Touch.refl _ _, fun j hj => .inl hj, rfl, TwoRows.start _ _ _, rfl, Nat.le_refl _⟩

set_option maxHeartbeats 16000000 in
theorem refCommit_any {A : Option Addr} {n c : Nat} (h : RefAt w G x S) (hq : RLog w q x seq) (hqG : ¬ G q) (hl : RImgs w G A n l) (hby : ∀ y ∈ l, AllBytes y.2) (hn : n ≤ 65536) (hs : 0 ≤ seq ∧ seq < 4611686018427387904) (hw : S.writes ≤ 9223372036854500000) :
    Calls Tryz.prog 53 #[.pointer (some ⟨q, 0, none⟩), .slice A n c] w fun e w' => e = .returned (.int .i64 (commitS S seq l).1) ∧ Committed w G x q (commitS S seq l) w' := by
  have hlen := hl.1
  have hP : S.P = pagesOf S.n := rfl
  have hok := h.okay'
  have hsz := hok.size
  have hpb := pagesOf_bounds (S.n : Int)
  have hpn := (pagesOf_nn (S.n : Int)).2.1 (by omega)
  have HLP := Lib.hid (refLogPages_any h hq)
  by_cases hc1 : pagesOf S.n < (n : Int)
  · have k1 : decide (pagesOf S.n < (n : Int)) = true := by simpa using hc1
    have HC := Lib.hid (commitS_full (S := S) (seq := seq) (l := l) (by rw [hlen, hP]; omega))
    have HF := Lib.hid (Committed.of (e := 6) hq hqG h.same)
    clear hc1 h hq hl
    go_enter Tryz.func53, Tryz.ntmps53
    go_wp2_with fail
    refine HLP.out.mono ?_
    rintro e w1 ⟨rfl, rfl⟩
    go_wp2
    go_ret
    rw [HC.out]
    exact ⟨rfl, HF.out⟩
  have k1 : decide (pagesOf S.n < (n : Int)) = false := by simpa using hc1
  have HRT := Lib.hid (refRight_imgs (c := c) h hq hl hn)
  have hlt := h.lt
  by_cases hc2 : ¬ rightS S l
  · have HC := Lib.hid (commitS_wrong (seq := seq) (by rw [hlen, hP]; omega) hc2)
    have HD := Lib.hid (show decide (rightS S l) = false by simpa using hc2)
    have HF := Lib.hid (fun w1 (hb : Below w.heap.size w w1) => Committed.of (w' := w1) (e := 1) hq hqG (Wrote.later h hb))
    clear hc1 hc2 h hq hl
    go_enter Tryz.func53, Tryz.ntmps53
    go_wp2_with fail
    refine HLP.out.mono ?_
    rintro e w1 ⟨rfl, rfl⟩
    go_wp2_with fail
    refine HRT.out.mono ?_
    rw [HD.out]
    rintro e w2 ⟨rfl, hb2⟩
    have hF := Lib.hid (HF.out w2 hb2)
    clear hb2
    go_wp2
    go_ret
    rw [HC.out]
    exact ⟨rfl, hF.out⟩
  have hc2' : rightS S l := Classical.not_not.1 hc2
  have HD := Lib.hid (show decide (rightS S l) = true by simpa using hc2')
  by_cases hc3 : n = 0
  · have hl0 : l = [] := List.eq_nil_of_length_eq_zero (by omega)
    have HC := Lib.hid (commitS_none (seq := seq) (by rw [hlen, hP]; omega) hc2' hl0)
    have HF := Lib.hid (fun w1 (hb : Below w.heap.size w w1) => Committed.of (w' := w1) (e := 0) hq hqG (Wrote.later h hb))
    subst hc3
    clear hc1 hc2 h hq hl hc2' hl0 hlen
    go_enter Tryz.func53, Tryz.ntmps53
    go_wp2_with fail
    refine HLP.out.mono ?_
    rintro e w1 ⟨rfl, rfl⟩
    go_wp2_with fail
    refine HRT.out.mono ?_
    rw [HD.out]
    rintro e w2 ⟨rfl, hb2⟩
    have hF := Lib.hid (HF.out w2 hb2)
    clear hb2
    go_wp2
    go_ret
    rw [HC.out]
    exact ⟨rfl, hF.out⟩
  have HI : Imgs S.n seq l := ⟨fun y hy => by have := hc2'.1 y hy; rw [hP] at this; exact this, hby, hc2'.2, by omega, hs.1, hs.2⟩
  have HC := Lib.hid (commitS_some (seq := seq) (by rw [hlen, hP]; omega) hc2' (fun e => hc3 (by rw [← hlen, e]; rfl)))
  have HIM := Lib.hid HI
  have HH := Lib.hid (And.intro h (And.intro hq (And.intro hqG hl)))
  have hpl := packs_length (seq + 1) l
  have r1 : wrap64 (seq + 1) = seq + 1 := by unfold wrap64; omega
  have k3 : ((n : Int) == 0) = false := by simp; omega
  have hqlt := hq.cells.2.2.2
  clear hc1 hc2 hc2' h hq hl HI
  go_enter Tryz.func53, Tryz.ntmps53
  go_wp2_with fail
  refine HLP.out.mono ?_
  rintro e w1 ⟨rfl, rfl⟩
  go_wp2_with fail
  refine HRT.out.mono ?_
  rw [HD.out]
  rintro e w2 ⟨rfl, hb2⟩
  obtain ⟨h, hq, hqG', hl⟩ := HH.out
  have l1 := (hq.keep (hb2.block q hqlt)).cells.2.1
  have HM0 := Lib.hid (show SlotMid q w G x S (packs (seq + 1) l) (.slice none 0 0) (.slice none 0 0) 0 w2 from ⟨G, S, h.keep (fun k hk => hb2.block k (hlt k hk)), Touch.of_below hb2, fun j hj => .inl hj, rfl, TwoRows.start _ _ _, rfl, Nat.le_refl _⟩)
  clear h hq hl hb2
  go_wp2
  go_loopw [6, 7, 8] (fun ov pv i wr => ∃ (k : Nat) (A1 : Option Addr) (n1 c1 : Nat) (A2 : Option Addr) (n2 c2 : Nat), k ≤ n ∧ i = .int .i64 k ∧ ov = .slice A1 n1 c1 ∧ pv = .slice A2 n2 c2 ∧ Hid (SlotMid q w G x S (packs (seq + 1) l) (.slice A1 n1 c1) (.slice A2 n2 c2) k wr)) (fun _ _ i _ => n - (intOf i).toNat)
  case atStart => exact ⟨0, none, 0, 0, none, 0, 0, Nat.zero_le _, rfl, rfl, rfl, HM0⟩
  case round =>
    obtain ⟨k, A1, n1, c1, A2, n2, c2, hk, rfl, rfl, rfl, hM⟩ := hrel
    obtain ⟨h, hq, hqG', hl⟩ := HH.out
    obtain ⟨G1, S1, hR1, hT1, hG1, he1, hrows1, hn1, hw1⟩ := hM.out
    have l0 := (hq.keep (hT1.block q hqlt hqG)).cells.1
    have l1 := (hq.keep (hT1.block q hqlt hqG)).cells
    by_cases hlt1 : k < n
    · have hlt' : (k : Int) < (n : Int) := by omega
      have hlr : RImgs wr G1 A n l := hl.keep hT1.size (fun j hj hjG hf => by
        rcases hG1 j hf with a | a
        · exact hjG a
        · omega) (fun j hj hjG => hT1.block j hj hjG)
      obtain ⟨y, hy⟩ : ∃ y, l[k]? = some y := ⟨_, List.getElem?_eq_getElem (by omega)⟩
      have hym := List.mem_of_getElem? hy
      obtain ⟨hpk, hup, hb256⟩ := HIM.out.pack hym
      have hps : (packs (seq + 1) l)[k]? = some (y.1, secL y.1 (seq + 1) y.2) := by unfold packs; rw [List.getElem?_map, hy, ← hpk]; rfl
      have hpage := HIM.out.page y hym
      obtain ⟨ib, rfl, hib, hibl, hat⟩ := hlr.2 (by omega)
      obtain ⟨d1, D, m, cm, d2, hmc, hm63, hrb, _⟩ := hat k y hy
      have hm240 : m = 240 := by rw [← hrb.len]; exact hpage.2.2
      subst hm240
      obtain ⟨gl, c0, gx, rfl, hGx⟩ := hR1.sizeCell
      have hsec : secR y.1 (seq + 1) = true := decide_eq_true ⟨hpage.1, by omega, by omega, by omega⟩
      have e1 : wr.drew.cell? ⟨ib, k * 2, none⟩ = some (.int .i64 y.1) := d1
      have e2 : wr.drew.cell? ⟨ib, k * 2 + 1, none⟩ = some (.slice D 240 cm) := d2
      have HPK := Lib.hid (refPack_sl D 240 cm wr.drew.heap.size y.2 y.1 (seq + 1) wr.drew hrb.drew (Nat.le_refl _) rfl hsec)
      have HALL := Lib.hid (And.intro hR1 (And.intro hT1 (And.intro hG1 (And.intro he1 hrows1))))
      have HN1 := Lib.hid hn1
      have HY := Lib.hid (And.intro hy hps)
      have hn63 : n ≤ 9223372036854775807 := by omega
      rw [hn1] at c0
      have HPGE := Lib.hid hpage
      clear h hq hl hR1 hT1 hG1 he1 hrows1 hlr hat hrb hn1 hy hps hup hpk hM HM0 hb256 hpl hpage hsec
      go_wp2_with fail
      go_region_held3 (fun w' => w'.cell? ⟨ib, k * 2, none⟩ = some (.int .i64 y.1) ∧ w'.cell? ⟨ib, k * 2 + 1, none⟩ = some (.slice D 240 cm))
        (first | exact ⟨e1, e2⟩ | exact ⟨f1, f2⟩)
        ((go_at_call 107; refine HPK.out.mono ?_; rintro e w3 ⟨g, cg, rfl, hcg, hg, hr3, hb3⟩; have f1 := (hb3.cell (p := ⟨ib, k * 2, none⟩) hibl).trans e1; have f2 := (hb3.cell (p := ⟨ib, k * 2 + 1, none⟩) hibl).trans e2))
      obtain ⟨hR1, hT1, hG1, he1, hrows1⟩ := HALL.out
      have hlt1' := hR1.lt
      have hb3' : Below wr.heap.size wr w3 := ⟨hb3.os, hb3.tape, hb3.output, hb3.size, hb3.block⟩
      have hwr := hT1.size
      have c0' := (hb3'.cell (p := ⟨gx, 0, none⟩) (hlt1' gx hGx)).trans c0
      have l0' := (hb3'.cell (p := ⟨q, 0, none⟩) (Nat.lt_of_lt_of_le hqlt hwr)).trans l0
      have hR3 : RefAt w3 G1 ⟨gx, 0, none⟩ S1 := hR1.keep (fun j hj => hb3'.block j (hlt1' j hj))
      have hT3 : Touch G w w3 := ⟨hb3'.os.trans hT1.os, hb3'.tape.trans hT1.tape, hb3'.output.trans hT1.output, Nat.le_trans hwr hb3'.size, fun j hj hF => (hb3'.block j (Nat.lt_of_lt_of_le hj hwr)).trans (hT1.block j hj hF)⟩
      have hg' : wr.heap.size ≤ g := hg
      have hGg : ¬ G1 g := fun hf => by have := hlt1' g hf; omega
      have hrows3 := hrows1.below hb3'
      have hfew := HIM.out.few
      have hsl : slotOf (S.n : Int) (k : Int) = ((k : Int) + 1, true) := by unfold slotOf; rw [if_neg (by omega)]
      have HSL := Lib.hid (refSlot_any (S.n : Int) (k : Int) w3 (by omega))
      rw [hsl] at HSL
      have hbl := secL_bytes y.1 (seq + 1) (hby y (List.mem_of_getElem? HY.out.1))
      have HW := Lib.hid (refWrite_any hR3 ((k : Int) + 1) g 0 256 cg _ _ hr3 (Nat.le_refl _) hGg (by decide) (by omega))
      have HE := Lib.hid (show slotsS S 0 (packs (seq + 1) l) = thenS (S1.wr ((k : Int) + 1) (secL y.1 (seq + 1) y.2)) (fun S' => slotsS S' ((k : Int) + 1) ((packs (seq + 1) l).drop (k + 1))) by rw [he1, drop_at HY.out.2, slotsS_cons])
      obtain ⟨hmw, hmn⟩ := write_more S1 ((k : Int) + 1) (secL y.1 (seq + 1) y.2)
      have HP3 := Lib.hid (And.intro hT3 (And.intro hG1 (And.intro hrows3 (And.intro hr3 hb3'))))
      have hng : (Value.slice A1 n1 c1).ownBlock ≠ some g ∧ (Value.slice A2 n2 c2).ownBlock ≠ some g := ⟨fun e => by
          obtain ⟨vs, hv, _⟩ := hrows1.out
          have := (own_at hv g e).2
          omega, fun e => by
          have := (own_at hrows1.pages g e).2
          omega⟩
      have HNG := Lib.hid hng
      have HLT1 := Lib.hid hlt1'
      clear hR1 hT1 he1 hrows1 hb3 hR3 hT3 hGg hrows3 hsl hbl hng hr3 hb3' hfew e1 e2 f1 f2 c0 l0 d2 HALL HPK
      by_cases h0 : S1.writeE ((k : Int) + 1) (secL y.1 (seq + 1) y.2) = 0
      · have H0 := Lib.hid h0
        have HE3 := Lib.hid (HE.out.trans (thenS_ok (r := S1.wr ((k : Int) + 1) (secL y.1 (seq + 1) y.2)) h0))
        clear h0
        go_wp2_with fail
        refine HSL.out.mono ?_
        rintro e w9 ⟨rfl, rfl⟩
        go_wp2_with fail
        refine HW.out.mono ?_
        rw [H0.out]
        rintro e w4 ⟨rfl, hW4⟩
        obtain ⟨G2, hR2, hT2, hG2⟩ := hW4
        obtain ⟨hT3, _, hrows3, hr3, hb3'⟩ := HP3.out
        have hrows4 := hrows3.touchQ hT2 hG2
        have hgl3 : g < w3.heap.size := by obtain ⟨bb, _, e, hbb, _⟩ := hr3.at_ (by decide); cases e; exact hbb
        have hGg1 : ¬ G1 g := fun hf => by have := HLT1.out g hf; omega
        have hr4 := hr3.there (w' := w4) (by decide) (hT2.block g hgl3 hGg1) hT2.size
        have hG2g : ¬ G2 g := fun hf => by
          rcases hG2 g hf with a | a
          · exact hGg1 a
          · omega
        have hs4 := hT2.size
        have hap : Apart w4 (orAt G2 q) (.slice A1 n1 c1) (.slice A2 n2 c2) (.slice (some ⟨g, 0, none⟩) 256 cg) (secL y.1 (seq + 1) y.2) := ⟨g, cg, rfl, hcg, (fun hf => by
          rcases hf with a | a
          · exact hG2g a
          · omega), HNG.out.1, HNG.out.2, by omega, hr4⟩
        obtain ⟨vs, hvs, hvl⟩ := hrows4.out
        have hkl : ((packs (seq + 1) l).take k).length = k := by rw [List.length_take, packs_length]; omega
        have e1 : n1 = k := by
          rcases hvs.2 with ⟨e1, e2⟩ | ⟨_, _, _, e1, _⟩
          · injection e1 with _ e3; rw [hkl] at e2; omega
          · injection e1 with _ e3; rw [e3, hkl]
        have e2 : n2 = k := by
          rcases hrows4.pages.2 with ⟨e1, e2⟩ | ⟨_, _, _, e1, _⟩
          · injection e1 with _ e3; rw [hkl] at e2; omega
          · injection e1 with _ e3; rw [e3, hkl]
        subst e1
        subst e2
        have hibw : ib < w3.heap.size := by have := hb3'.size; omega
        have d4 : w4.drew.cell? ⟨ib, n2 * 2, none⟩ = some (.int .i64 y.1) := (World.cell?_of_block (w := w3) (w' := w4) (a := ⟨ib, n2 * 2, none⟩) (hT2.block ib hibw hib)).trans ((hb3'.cell (p := ⟨ib, n2 * 2, none⟩) hibl).trans d1)
        have hsz4 : w.heap.size ≤ w4.heap.size := by have := hT3.size; omega
        have bX1 : Below w4.heap.size w4 (w4.alloc (.cells #[.slice (some ⟨g, 0, none⟩) 256 cg] 32)).drew := ((Below.refl _ w4).alloc (Nat.le_refl _) _).drew
        have bX2 : Below w4.heap.size w4 ((w4.alloc (.cells #[.slice (some ⟨g, 0, none⟩) 256 cg] 32)).alloc (.cells #[.int .i64 y.1] 3)).drew := (((Below.refl _ w4).alloc (Nat.le_refl _) _).alloc (by simp) _).drew
        have bX3 : Below w4.heap.size w4 ((w4.alloc (.cells #[.int .i64 y.1] 3)).alloc (.cells #[.slice (some ⟨g, 0, none⟩) 256 cg] 32)).drew := (((Below.refl _ w4).alloc (Nat.le_refl _) _).alloc (by simp) _).drew
        have oX := fun (X : World) (hX : Below w4.heap.size w4 X) => own_stays hvs (fun r hr => hX.block r (own_at hvs r hr).2)
        rw [hkl] at oX
        have o1 := oX _ bX1
        have o2 := oX _ bX2
        have o3 := oX _ bX3
        have hb1 : (w4.alloc (.cells #[.slice (some ⟨g, 0, none⟩) 256 cg] 32)).drew.heap[w4.heap.size]? = some (.cells #[.slice (some ⟨g, 0, none⟩) 256 cg] 32) := heap_alloc_new w4 _
        have hb2 : ((w4.alloc (.cells #[.slice (some ⟨g, 0, none⟩) 256 cg] 32)).alloc (.cells #[.int .i64 y.1] 3)).drew.heap[w4.heap.size]? = some (.cells #[.slice (some ⟨g, 0, none⟩) 256 cg] 32) := (heap_alloc_old (w4.alloc (.cells #[.slice (some ⟨g, 0, none⟩) 256 cg] 32)) (.cells #[.int .i64 y.1] 3) (by simp)).trans (heap_alloc_new w4 (.cells #[.slice (some ⟨g, 0, none⟩) 256 cg] 32))
        have hb3 : ((w4.alloc (.cells #[.int .i64 y.1] 3)).alloc (.cells #[.slice (some ⟨g, 0, none⟩) 256 cg] 32)).drew.heap[w4.heap.size + 1]? = some (.cells #[.slice (some ⟨g, 0, none⟩) 256 cg] 32) := by
          have := heap_alloc_new (w4.alloc (.cells #[.int .i64 y.1] 3)) (.cells #[.slice (some ⟨g, 0, none⟩) 256 cg] 32)
          rw [World.size_alloc] at this
          exact this
        have hi2 : ((w4.alloc (.cells #[.slice (some ⟨g, 0, none⟩) 256 cg] 32)).alloc (.cells #[.int .i64 y.1] 3)).drew.heap[w4.heap.size + 1]? = some (.cells #[.int .i64 y.1] 3) := by
          have := heap_alloc_new (w4.alloc (.cells #[.slice (some ⟨g, 0, none⟩) 256 cg] 32)) (.cells #[.int .i64 y.1] 3)
          rw [World.size_alloc] at this
          exact this
        have hi3 : ((w4.alloc (.cells #[.int .i64 y.1] 3)).alloc (.cells #[.slice (some ⟨g, 0, none⟩) 256 cg] 32)).drew.heap[w4.heap.size]? = some (.cells #[.int .i64 y.1] 3) := (heap_alloc_old (w4.alloc (.cells #[.int .i64 y.1] 3)) (.cells #[.slice (some ⟨g, 0, none⟩) 256 cg] 32) (by simp)).trans (heap_alloc_new w4 (.cells #[.int .i64 y.1] 3))
        have hov : ∀ r, (Value.slice A1 n2 c1).ownBlock = some r → r < w4.heap.size := fun r hr => (own_at hvs r hr).2
        have HPGS := Lib.hid (fun X w5 hX hg => hrows4.pages2 (X := X) (w1 := w5) hvs hX hg)
        rw [hkl] at HPGS
        have HPUSH := Lib.hid (fun (X w5 Y w6 : World) ov' pv' h1 h2 h3 h4 h5 h6 h7 h8 => hrows4.push2 (Xa := X) (w1 := w5) (Xb := Y) (w2 := w6) (ov' := ov') (pv' := pv') (p := y.1) (fun k hk => hk.elim (fun a => hR2.lt k a) (fun a => by have : k = q := a; omega)) hap hvs hvl h1 h2 h3 h4 h5 h6 h7 h8)
        rw [hkl] at HPUSH
        have hibw0 : ib < w.heap.size := by
          obtain ⟨ib', e, _, h', _⟩ := HH.out.2.2.2.2 (by omega)
          cases e
          exact h'
        have hvs' := hvs
        rw [hkl] at hvs'
        have hT4 : Touch G w w4 := ⟨hT2.os.trans hT3.os, hT2.tape.trans hT3.tape, hT2.output.trans hT3.output, Nat.le_trans hT3.size hT2.size, fun j hj hF => (hT2.block j (Nat.lt_of_lt_of_le hj hT3.size) (fun hg => (hG1 j hg).elim hF (fun a => by omega))).trans (hT3.block j hj hF)⟩
        have HEND := Lib.hid (fun (X w5 Y w6 : World) (g4 c4 g5 c5 : Nat) (a1 : Below w4.heap.size w4 X) a2 a3 a4 a5 a6 a7 a8 => SlotMid.put (Xa := X) (w1 := w5) (Xb := Y) (w2 := w6) (ov' := .slice (some ⟨g4, 0, none⟩) (n2 + 1) c4) (pv' := .slice (some ⟨g5, 0, none⟩) (n2 + 1) c5) hqlt hR2 hT4 (fun j hj => (hG2 j hj).elim (hG1 j) (fun a => .inr (Nat.le_trans hT3.size a))) HE3.out HY.out.2 (hmn.trans HN1.out) (by have := hmw; omega) hrows4 hkl hap hvs' hvl a1 a2 a3 a4 a5 a6 a7 a8)
        have HKX := Lib.hid (fun (X : World) (hX : Below w4.heap.size w4 X) => (show X.cell? ⟨ib, n2 * 2, none⟩ = some (.int .i64 y.1) from (hX.cell (p := ⟨ib, n2 * 2, none⟩) (show ib < w4.heap.size by omega)).trans d4))
        have HK5 := Lib.hid (fun (X w5 : World) (hX : Below w4.heap.size w4 X) (hg : X.grownBy w5 (Value.slice A1 n2 c1).ownBlock) => (show w5.cell? ⟨ib, n2 * 2, none⟩ = some (.int .i64 y.1) from (World.cell?_of_block (a := ⟨ib, n2 * 2, none⟩) (hg.block ib (Nat.lt_of_lt_of_le (show ib < w4.heap.size by omega) hX.size) (fun e => by have := (own_at hvs ib e.symm).1; omega))).trans (HKX.out X hX)))
        have HK5b := Lib.hid (fun (X w5 Y : World) (hX : Below w4.heap.size w4 X) (hg : X.grownBy w5 (Value.slice A1 n2 c1).ownBlock) (hY : Below w5.heap.size w5 Y) => (show Y.cell? ⟨ib, n2 * 2, none⟩ = some (.int .i64 y.1) from (hY.cell (p := ⟨ib, n2 * 2, none⟩) (Nat.lt_of_lt_of_le (Nat.lt_of_lt_of_le (show ib < w4.heap.size by omega) hX.size) hg.size)).trans (HK5.out X w5 hX hg)))
        have HK6 := Lib.hid (fun (X w5 Y w6 : World) (hX : Below w4.heap.size w4 X) (hg : X.grownBy w5 (Value.slice A1 n2 c1).ownBlock) (hY : Below w5.heap.size w5 Y) (hg2 : Y.grownBy w6 (Value.slice A2 n2 c2).ownBlock) => (show w6.cell? ⟨ib, n2 * 2, none⟩ = some (.int .i64 y.1) from (World.cell?_of_block (a := ⟨ib, n2 * 2, none⟩) (hg2.block ib (Nat.lt_of_lt_of_le (Nat.lt_of_lt_of_le (Nat.lt_of_lt_of_le (show ib < w4.heap.size by omega) hX.size) hg.size) hY.size) (fun e => by have := (own_at hrows4.pages ib e.symm).1; omega))).trans (HK5b.out X w5 Y hX hg hY)))
        have HB4 := Lib.hid (show Below w4.heap.size w4 (w4.alloc (.cells #[.int .i64 y.1] 3)).drew from ((Below.refl _ w4).alloc (Nat.le_refl _) _).drew)
        have HREST := Lib.hid (And.intro hR2 (And.intro hT2 (And.intro hG2 (And.intro hov hkl))))
        have HBX := Lib.hid (And.intro bX1 (And.intro bX2 bX3))
        have HHI := Lib.hid (And.intro hi2 hi3)
        clear hR2 hT2 hG2 hrows3 hr3 hb3' hrows4 hr4 hap hvs hvl hkl bX1 bX2 bX3 oX hov hi2 hi3 hGg1 hG2g d1 hT3
        have HA2 := Lib.hid (fun (X w5 : World) (hX : Below w4.heap.size w4 X) (hg : X.grownBy w5 (Value.slice A1 n2 c1).ownBlock) => own_stays (w' := w5.alloc (.cells #[.int .i64 y.1] 3)) (HPGS.out X w5 hX hg) (fun r hr => ((Below.refl w5.heap.size w5).alloc (Nat.le_refl _) _).block r (own_at (HPGS.out X w5 hX hg) r hr).2))
        go_wp2_with fail
        go_region_held3 (fun w' => w'.cell? ⟨ib, n2 * 2, none⟩ = some (.int .i64 y.1))
          (with_reducible first | exact d4 | exact HKX.out _ HBX.out.1 | exact HKX.out _ HBX.out.2.1 | exact HKX.out _ HBX.out.2.2 | exact HKX.out _ HB4.out | exact HK5.out _ _ HBX.out.1 hg4 | exact HK5.out _ _ HBX.out.2.1 hg4 | exact HK5.out _ _ HBX.out.2.2 hg4 | exact HK5b.out _ _ _ HBX.out.1 hg4 ((Below.refl _ w5).alloc (Nat.le_refl _) _) | exact HK6.out _ _ _ _ HBX.out.1 hg4 ((Below.refl _ w5).alloc (Nat.le_refl _) _) hg5 | exact HK6.out _ _ _ _ HBX.out.2.1 hg4 (Below.refl _ w5) hg5 | exact HK6.out _ _ _ _ HBX.out.2.2 hg4 (Below.refl _ w5) hg5)
          (first
            | (with_reducible refine step_append_slice1 rfl _ _ rfl w.heap.size (.slice A1 n2 c1) n2 vs rfl w4.heap.size (some ⟨g, 0, none⟩) 256 cg 32 rfl o1 hb1 (by omega) (by simp; omega) ?_; intro g4 c4 w5 ho4 hg4 hl4)
            | (with_reducible refine step_append_slice1 rfl _ _ rfl w.heap.size (.slice A1 n2 c1) n2 vs rfl w4.heap.size (some ⟨g, 0, none⟩) 256 cg 32 rfl o2 hb2 (by omega) (by simp; omega) ?_; intro g4 c4 w5 ho4 hg4 hl4)
            | (with_reducible refine step_append_slice1 rfl _ _ rfl w.heap.size (.slice A1 n2 c1) n2 vs rfl (w4.heap.size + 1) (some ⟨g, 0, none⟩) 256 cg 32 rfl o3 hb3 (by omega) (by simp; omega) ?_; intro g4 c4 w5 ho4 hg4 hl4)
            | (with_reducible refine step_append_int1 rfl _ _ rfl w.heap.size (.slice A2 n2 c2) n2 _ rfl w5.heap.size y.1 3 rfl (HA2.out _ w5 HBX.out.1 hg4) (heap_alloc_new w5 _) (by omega) (by have := hg4.size; simp at this ⊢; omega) ?_; intro g5 c5 w6 ho5 hg5 hl5)
            | (with_reducible refine step_append_int1 rfl _ _ rfl w.heap.size (.slice A2 n2 c2) n2 _ rfl (w4.heap.size + 1) y.1 3 rfl (HPGS.out _ w5 HBX.out.2.1 hg4) ((hg4.block (w4.heap.size + 1) (by simp) (fun e => by have := HREST.out.2.2.2.1 _ e.symm; omega)).trans HHI.out.1) (by omega) (by have := hg4.size; simp at this ⊢; omega) ?_; intro g5 c5 w6 ho5 hg5 hl5)
            | (with_reducible refine step_append_int1 rfl _ _ rfl w.heap.size (.slice A2 n2 c2) n2 _ rfl w4.heap.size y.1 3 rfl (HPGS.out _ w5 HBX.out.2.2 hg4) ((hg4.block w4.heap.size (by simp; omega) (fun e => by have := HREST.out.2.2.2.1 _ e.symm; omega)).trans HHI.out.2) (by omega) (by have := hg4.size; simp at this ⊢; omega) ?_; intro g5 c5 w6 ho5 hg5 hl5))
        · have hM2 := Lib.hid (HEND.out _ w5 _ w6 g4 c4 g5 c5 HBX.out.1 ho4 hg4 hl4 ((Below.refl _ w5).alloc (Nat.le_refl _) _) ho5 hg5 hl5)
          clear ho4 hg4 hl4 ho5 hg5 hl5
          go_wp2
          go_roundw
          case rel => exact ⟨n2 + 1, _, _, _, _, _, _, by omega, by go_num, rfl, rfl, hM2⟩
          case measure => simp [intOf]; omega
        · have hM2 := Lib.hid (HEND.out _ w5 _ w6 g4 c4 g5 c5 HBX.out.2.1 ho4 hg4 hl4 (Below.refl _ w5) ho5 hg5 hl5)
          clear ho4 hg4 hl4 ho5 hg5 hl5
          go_wp2
          go_roundw
          case rel => exact ⟨n2 + 1, _, _, _, _, _, _, by omega, by go_num, rfl, rfl, hM2⟩
          case measure => simp [intOf]; omega
        · have hM2 := Lib.hid (HEND.out _ w5 _ w6 g4 c4 g5 c5 HBX.out.2.2 ho4 hg4 hl4 (Below.refl _ w5) ho5 hg5 hl5)
          clear ho4 hg4 hl4 ho5 hg5 hl5
          go_wp2
          go_roundw
          case rel => exact ⟨n2 + 1, _, _, _, _, _, _, by omega, by go_num, rfl, rfl, hM2⟩
          case measure => simp [intOf]; omega
      · have kne : (S1.writeE ((k : Int) + 1) (secL y.1 (seq + 1) y.2) != 0) = true := by simpa using h0
        have KN := Lib.hid kne
        have HCE := Lib.hid (show commitS S seq l = (S1.writeE ((k : Int) + 1) (secL y.1 (seq + 1) y.2), seq, S1.write ((k : Int) + 1) (secL y.1 (seq + 1) y.2)) by
          have e1 := HE.out.trans (thenS_no (r := S1.wr ((k : Int) + 1) (secL y.1 (seq + 1) y.2)) h0)
          rw [HC.out, e1, thenS_no (r := S1.wr ((k : Int) + 1) (secL y.1 (seq + 1) y.2)) h0]
          unfold commitB
          rw [if_pos (show (S1.wr ((k : Int) + 1) (secL y.1 (seq + 1) y.2)).1 ≠ 0 from h0)]
          rfl)
        clear h0 kne
        go_wp2_with fail
        refine HSL.out.mono ?_
        rintro e w9 ⟨rfl, rfl⟩
        go_wp2_with fail
        refine HW.out.mono ?_
        rintro e w4 ⟨rfl, hW4⟩
        have hF := Lib.hid (Committed.of (e := S1.writeE ((k : Int) + 1) (secL y.1 (seq + 1) y.2)) HH.out.2.1 hqG (Wrote.join HP3.out.1 hG1 hW4))
        have kne := KN.out
        clear hW4
        go_wp2
        go_ret
        rw [HCE.out]
        exact ⟨rfl, hF.out⟩
    · obtain rfl : k = n := by omega
      have hfull : (packs (seq + 1) l).take k = packs (seq + 1) l := List.take_of_length_le (by rw [hpl]; omega)
      rw [hfull] at hrows1
      have hdrop : (packs (seq + 1) l).drop k = [] := List.drop_of_length_le (by rw [hpl]; omega)
      rw [hdrop] at he1
      have hsl0 : slotsS S1 (k : Int) [] = (0, S1) := rfl
      rw [hsl0] at he1
      have HCB := Lib.hid (show commitS S seq l = commitB S seq l (S1.flushE, S1.flush) from by
        rw [HC.out, he1]
        rfl)
      have HF := Lib.hid (refFlush_any hR1)
      have HK := Lib.hid (And.intro hT1 (And.intro hG1 (And.intro hrows1 hR1)))
      have HN1 := Lib.hid hn1
      obtain ⟨gl, c0, gx, rfl, hGx⟩ := hR1.sizeCell
      have hsecR : secR (k : Int) (seq + 1) = true := decide_eq_true ⟨by omega, by omega, by omega, by omega⟩
      have hpk : ∀ y ∈ packs (seq + 1) l, 0 ≤ y.1 ∧ y.1 < pagesOf S.n := fun y hy => (HIM.out.mem hy).1
      have HPK := Lib.hid hpk
      have hSn : S1.flush.n = S.n := (P_flush S1).trans hn1
      have hwf : S1.flush.writes = S1.writes := by unfold DS.flush; split <;> rfl
      have hqlr : q < wr.heap.size := Nat.lt_of_lt_of_le hqlt hT1.size
      clear hfull hdrop hsl0 he1 hpk hT1 hG1 hrows1 hR1 hl h hq hM HM0 hn1
      by_cases h0 : S1.flushE = 0
      · have H0 := Lib.hid h0
        have HCB2 := Lib.hid (HCB.out.trans (show commitB S seq l (S1.flushE, S1.flush) = if (markS S1.flush l.length (seq + 1)).1 ≠ 0 then ((markS S1.flush l.length (seq + 1)).1, seq, (markS S1.flush l.length (seq + 1)).2) else
          ((homesS (markS S1.flush l.length (seq + 1)).2 (packs (seq + 1) l)).1, seq + 1, (homesS (markS S1.flush l.length (seq + 1)).2 (packs (seq + 1) l)).2) from by
          unfold commitB
          rw [if_neg (fun h => h h0)]))
        clear h0
        go_wp2_with fail
        refine HF.out.mono ?_
        rw [H0.out]
        rintro e w5 ⟨rfl, G5, hR5, hT5, hG5⟩
        obtain ⟨hT1, hG1, hrows1, hR1⟩ := HK.out
        have T5 : Touch G w w5 := hT1.join hG1 hT5
        have N5 : ∀ j, G5 j → G j ∨ w.heap.size ≤ j := new_join hT1.size hG1 hG5
        have hrows5 := hrows1.touchQ hT5 hG5
        have hq5 : RLog w5 q ⟨gx, 0, none⟩ seq := HH.out.2.1.keep (T5.block q hqlt hqG)
        obtain ⟨l0, l1, f1, _⟩ := hq5.cells
        have HMK := Lib.hid (refMark_any hR5 (k : Int) (seq + 1) hsecR (by rw [hwf]; omega))
        have HK5 := Lib.hid (And.intro T5 (And.intro N5 (And.intro hrows5 hq5)))
        rw [hlen] at HCB2
        clear hT1 hG1 hrows1 hR1 T5 N5 hrows5 hq5 hR5 hT5 hG5 HK HF
        generalize S1.flush = S5 at *
        by_cases h1 : (markS S5 k (seq + 1)).1 = 0
        · have H1 := Lib.hid h1
          have HCB3 := Lib.hid (HCB2.out.trans (if_neg (fun h => h h1)))
          clear h1
          go_wp2_with fail
          refine HMK.out.mono ?_
          rw [H1.out]
          rintro e w6 ⟨rfl, G6, hR6, hT6, hG6⟩
          obtain ⟨T5, N5, hrows5, hq5⟩ := HK5.out
          have T6 : Touch G w w6 := T5.join N5 hT6
          have N6 : ∀ j, G6 j → G j ∨ w.heap.size ≤ j := new_join T5.size N5 hG6
          have hrows6 := hrows5.touchQ hT6 hG6
          have hq6 : RLog w6 q ⟨gx, 0, none⟩ seq := HH.out.2.1.keep (T6.block q hqlt hqG)
          have hG6q : ¬ G6 q := fun hf => by
            rcases N6 q hf with a | a
            · exact hqG a
            · omega
          obtain ⟨l0, l1, f1, hq6l⟩ := hq6.cells
          have hcell : ∀ j, j ≠ q → (w6.setCell ⟨q, 1, none⟩ (.int .i64 (seq + 1))).heap[j]? = w6.heap[j]? := fun j hj => Below.heap_setCell _ _ _ _ hj
          have hR7 : RefAt (w6.setCell ⟨q, 1, none⟩ (.int .i64 (seq + 1))) G6 ⟨gx, 0, none⟩ (markS S5 k (seq + 1)).2 := hR6.keep (fun j hj => hcell j (fun e => hG6q (e ▸ hj)))
          have hrows7 : TwoRows (w6.setCell ⟨q, 1, none⟩ (.int .i64 (seq + 1))) G6 w.heap.size (.slice A1 n1 c1) (.slice A2 n2 c2) (packs (seq + 1) l) := hrows6.keep (by simp) (fun j _ hn hf => hn (.inl hf)) (fun j _ hn => hcell j (fun e => hn (.inr e)))
          have hq7 : RLog (w6.setCell ⟨q, 1, none⟩ (.int .i64 (seq + 1))) q ⟨gx, 0, none⟩ (seq + 1) := by
            unfold RLog at hq6 ⊢
            simp [World.setCell, Array.getElem?_modify, hq6]
          have l07 := hq7.cells.1
          have hmk := putS_more' [(0, secL k (seq + 1) zpage)] S5
          rw [mark_put' _ hsecR] at hmk
          have hmk1 : (markS S5 k (seq + 1)).2.writes ≤ S5.writes + 1 := hmk.1
          have hmn : (markS S5 k (seq + 1)).2.n = S.n := hmk.2.trans hSn
          have HHM := Lib.hid (refHomes_any hR7 hrows7 (by rw [hmn]; exact HPK.out) (by rw [hpl]; omega) (by rw [hpl]; omega))
          have HK7 := Lib.hid (And.intro T6 (And.intro N6 (And.intro hq7 hG6q)))
          have hsz6 : (w6.setCell ⟨q, 1, none⟩ (.int .i64 (seq + 1))).heap.size = w6.heap.size := by simp
          have HCL := Lib.hid hcell
          clear T5 N5 hrows5 hq5 T6 N6 hrows6 hrows7 hq7 hR6 hR7 hT6 hG6 hq6 HMK HK5 hmk hcell hG6q
          go_wp2_with fail
          refine HHM.out.mono ?_
          rintro e w8 ⟨rfl, G8, hR8, hT8, hG8⟩
          obtain ⟨T6, N6, hq7, hG6q⟩ := HK7.out
          have hF := Lib.hid (show Committed w G ⟨gx, 0, none⟩ q ((homesS (markS S5 k (seq + 1)).2 (packs (seq + 1) l)).1, seq + 1, (homesS (markS S5 k (seq + 1)).2 (packs (seq + 1) l)).2) w8 from
            ⟨G8, hR8, hq7.keep (hT8.block q (by rw [hsz6]; exact hq6l) hG6q), fun hf => by
              rcases hG8 q hf with a | a
              · exact hG6q a
              · omega, ⟨hT8.os.trans T6.os, hT8.tape.trans T6.tape, hT8.output.trans T6.output, by have := T6.size; have := hT8.size; omega, fun j hj hn => (hT8.block j (by have := T6.size; omega) (fun hf => by
                rcases N6 j hf with a | a
                · exact hn (.inl a)
                · omega)).trans ((HCL.out j (fun e => hn (.inr e))).trans (T6.block j hj (fun hf => hn (.inl hf))))⟩, new_join T6.size N6 (fun j hj => (hG8 j hj).imp id (fun a => by omega))⟩)
          clear T6 N6 hq7 hR8 hT8 hG8
          go_wp2
          go_ret
          rw [HCB3.out]
          exact ⟨rfl, hF.out⟩
        · have HCB3 := Lib.hid (HCB2.out.trans (if_pos h1))
          have kne : ((markS S5 k (seq + 1)).1 != 0) = true := by simpa using h1
          have KN := Lib.hid kne
          clear h1 kne
          go_wp2_with fail
          refine HMK.out.mono ?_
          rintro e w6 ⟨rfl, hW6⟩
          have kne := KN.out
          have hF := Lib.hid (Committed.of (e := (markS S5 k (seq + 1)).1) HH.out.2.1 hqG (Wrote.join HK5.out.1 HK5.out.2.1 hW6))
          clear hW6
          go_wp2
          go_ret
          rw [HCB3.out]
          exact ⟨rfl, hF.out⟩
      · have HCB2 := Lib.hid (HCB.out.trans (show commitB S seq l (S1.flushE, S1.flush) = (S1.flushE, seq, S1.flush) from by
          unfold commitB
          rw [if_pos (show (S1.flushE, S1.flush).1 ≠ 0 from h0)]))
        have kne : (S1.flushE != 0) = true := by simpa using h0
        have KN := Lib.hid kne
        clear h0 kne
        go_wp2_with fail
        refine HF.out.mono ?_
        rintro e w5 ⟨rfl, hW5⟩
        have kne := KN.out
        have hF := Lib.hid (Committed.of (e := S1.flushE) HH.out.2.1 hqG (Wrote.join HK.out.1 HK.out.2.1 hW5))
        clear hW5
        go_wp2
        go_ret
        rw [HCB2.out]
        exact ⟨rfl, hF.out⟩
end

end Go.Proofs.YtkpmfobmlaldfaaGreatDoor

/-
  The plain pager in memory, apart from the program's; both in a law. Condition: the table that crc.Step reads holds what the program's text lays in it when the law begins.
-/
namespace Go.Proofs.YtkpmfobmlaldfaaGreatDoor
open Go.RowKit
set_option maxRecDepth 100000
set_option linter.unusedVariables false

/-- In a law that began in w0: the program's pager, in blocks of the law's own. -/
structure LawP (D : World → (Nat → Prop) → Addr → DS → Prop) (w0 w : World) (F O : Nat → Prop) (p : Addr) (S : DS) (q : Nat) (seq : Int) (r b : Nat) (L : List (Int × List Int)) : Prop where
  pg : PgAt D w F O p S q seq r b L
  out : ∀ k, O k → w0.heap.size ≤ k
  bel : Below w0.heap.size w0 w
  tab : Tab w0 ∧ 1 < w0.heap.size

def rpX (G : Nat → Prop) (q' xr : Nat) (Z : Nat → Prop) (k : Nat) : Prop := G k ∨ k = q' ∨ k = xr ∨ Z k
/-- The plain pager at xr: of the plain log at q', its list in a slice v; apart from the blocks Z. -/
structure RPg (w : World) (G Z : Nat → Prop) (base : Nat) (xa : Addr) (T : DS) (q' : Nat) (t : Int) (xr : Nat) (v : Value) (M : List (Int × List Int)) : Prop where
  ref : RefAt w G xa T
  log : RLog w q' xa t
  qG : ¬ G q'
  me : w.heap[xr]? = some (.cells #[.pointer (some ⟨q', 0, none⟩), v] 41 (0, 0))
  xG : ¬ G xr
  xq : xr ≠ q'
  row : PRow 101 240 w (rpX G q' xr Z) base v M
  nil_ : M = [] → v = .slice none 0 0
/-- Both. -/
structure TwoPg (D : World → (Nat → Prop) → Addr → DS → Prop) (w0 w : World) (F O G : Nat → Prop) (p xa : Addr) (S T : DS) (q q' : Nat) (s t : Int) (r b xr : Nat) (v : Value) (L M : List (Int × List Int)) : Prop extends LawP D w0 w F O p S q s r b L where
  R : RPg w G O w0.heap.size xa T q' t xr v M
  gout : ∀ k, G k → w0.heap.size ≤ k
  r0 : w0.heap.size ≤ q'
  x0 : w0.heap.size ≤ xr
  apart : ∀ k, O k → ¬ (G k ∨ k = q' ∨ k = xr)

section
variable {D : World → (Nat → Prop) → Addr → DS → Prop} {w0 w w' : World} {F F' O O' G Z : Nat → Prop} {p xa : Addr} {S S' T : DS} {q q' r b xr base : Nat} {s s' t : Int} {v : Value} {L L' M : List (Int × List Int)}

theorem LawP.tabF (h : LawP D w0 w F O p S q s r b L) : TabF w F := ⟨h.tab.1.below h.bel h.tab.2, Nat.lt_of_lt_of_le h.tab.2 h.bel.size, fun hf => by have := h.out _ (h.pg.own _ (.inl hf)); have := h.tab.2; omega⟩
theorem LawP.later (api : DiskApi D) (h : LawP D w0 w F O p S q s r b L) (hb : Below w.heap.size w w') : LawP D w0 w' F O p S q s r b L := ⟨h.pg.below api hb, h.out, h.bel.trans (hb.mono h.bel.size), h.tab⟩
theorem LawP.next (h : LawP D w0 w F O p S q s r b L) (hp : PgAt D w' F' O' p S' q s' r b L') (ht : Touch O w w') (hO : ∀ k, O' k → O k ∨ w.heap.size ≤ k) : LawP D w0 w' F' O' p S' q s' r b L' :=
  ⟨hp, fun k hk => by
    rcases hO k hk with a | a
    · exact h.out k a
    · exact Nat.le_trans h.bel.size a, h.bel.trans (ht.below h.out h.bel.size), h.tab⟩

theorem RPg.cells (h : RPg w G Z base xa T q' t xr v M) : w.cell? ⟨xr, 0, none⟩ = some (.pointer (some ⟨q', 0, none⟩)) ∧ w.cell? ⟨xr, 1, none⟩ = some v ∧ w.frozen? ⟨xr, 1, none⟩ = false ∧ xr < w.heap.size := by
  refine ⟨?_, ?_, ?_, (Array.getElem?_eq_some_iff.1 h.me).1⟩
  · rw [cell_of_row w xr 0 _ _ (0, 0) h.me]; rfl
  · rw [cell_of_row w xr 1 _ _ (0, 0) h.me]; rfl
  · simp [World.frozen?, h.me]
/-- The others' blocks alone were written. -/
theorem RPg.far (h : RPg w G Z base xa T q' t xr v M) (hZ : ∀ k, Z k → ¬ (G k ∨ k = q' ∨ k = xr)) {Z' : Nat → Prop} (ht : Touch Z w w') (hn : ∀ k, Z' k → Z k ∨ w.heap.size ≤ k) : RPg w' G Z' base xa T q' t xr v M := by
  have hql := h.log.cells.2.2.2
  have hxl := h.cells.2.2.2
  refine ⟨h.ref.keep (fun k hk => ht.block k (h.ref.lt k hk) (fun a => hZ k a (.inl hk))), h.log.keep (ht.block q' hql (fun a => hZ q' a (.inr (.inl rfl)))), h.qG, (ht.block xr hxl (fun a => hZ xr a (.inr (.inr rfl)))).trans h.me, h.xG, h.xq, h.row.keep (by decide) ht.size (fun k hk hx hx' => hx ?_) (fun k hk hx => ht.block k hk (fun a => hx (.inr (.inr (.inr a))))), h.nil_⟩
  rcases hx' with a | a | a | a
  · exact .inl a
  · exact .inr (.inl a)
  · exact .inr (.inr (.inl a))
  · rcases hn k a with a | a
    · exact .inr (.inr (.inr a))
    · omega
theorem RPg.below (h : RPg w G Z base xa T q' t xr v M) (hb : Below w.heap.size w w') : RPg w' G Z base xa T q' t xr v M :=
  ⟨h.ref.keep (fun k hk => hb.block k (h.ref.lt k hk)), h.log.keep (hb.block q' h.log.cells.2.2.2), h.qG, (hb.block xr h.cells.2.2.2).trans h.me, h.xG, h.xq, h.row.below (by decide) hb, h.nil_⟩
theorem TwoPg.later (api : DiskApi D) (h : TwoPg D w0 w F O G p xa S T q q' s t r b xr v L M) (hb : Below w.heap.size w w') : TwoPg D w0 w' F O G p xa S T q q' s t r b xr v L M :=
  ⟨h.toLawP.later api hb, h.R.below hb, h.gout, h.r0, h.x0, h.apart⟩
/-- The program's pager did something. -/
theorem TwoPg.nextP (h : TwoPg D w0 w F O G p xa S T q q' s t r b xr v L M) (hp : PgAt D w' F' O' p S' q s' r b L') (ht : Touch O w w') (hO : ∀ k, O' k → O k ∨ w.heap.size ≤ k) : TwoPg D w0 w' F' O' G p xa S' T q q' s' t r b xr v L' M := by
  refine ⟨h.toLawP.next hp ht hO, h.R.far h.apart ht hO, h.gout, h.r0, h.x0, fun k hk hx => ?_⟩
  rcases hO k hk with a | a
  · exact h.apart k a hx
  · rcases hx with e | e | e
    · have := h.R.ref.lt k e; omega
    · have := h.R.log.cells.2.2.2; omega
    · have := h.R.cells.2.2.2; omega
/-- The blocks that the plain pager may write. -/
def rpY (G : Nat → Prop) (q' xr : Nat) (v : Value) (k : Nat) : Prop := G k ∨ k = q' ∨ k = xr ∨ v.ownBlock = some k
/-- The plain pager did something. -/
theorem TwoPg.nextR (api : DiskApi D) (h : TwoPg D w0 w F O G p xa S T q q' s t r b xr v L M) {G' : Nat → Prop} {T' : DS} {t' : Int} {v' : Value} {M' : List (Int × List Int)} (hR : RPg w' G' O w0.heap.size xa T' q' t' xr v' M') (ht : Touch (rpY G q' xr v) w w') (hG : ∀ k, G' k → G k ∨ w.heap.size ≤ k) : TwoPg D w0 w' F O G' p xa S T' q q' s t' r b xr v' L M' := by
  have hno : ∀ k, O k → ¬ rpY G q' xr v k := fun k hk hy => by
    rcases hy with a | a | a | a
    · exact h.apart k hk (.inl a)
    · exact h.apart k hk (.inr (.inl a))
    · exact h.apart k hk (.inr (.inr a))
    · exact h.R.row.out k a (.inr (.inr (.inr hk)))
  have hlow : ∀ k, rpY G q' xr v k → w0.heap.size ≤ k := fun k hy => by
    rcases hy with a | a | a | a
    · exact h.gout k a
    · have := h.r0; omega
    · have := h.x0; omega
    · obtain ⟨vs, hv, _⟩ := h.R.row.row
      exact (own_at hv k a).1
  refine ⟨⟨h.pg.keep api ht.size (fun k hk => ht.block k (h.pg.lt k hk) (hno k hk)), h.out, h.bel.trans (ht.below hlow h.bel.size), h.tab⟩, hR, fun k hk => ?_, h.r0, h.x0, fun k hk hx => ?_⟩
  · rcases hG k hk with a | a
    · exact h.gout k a
    · exact Nat.le_trans h.bel.size a
  · rcases hx with a | a
    · rcases hG k a with a | a
      · exact h.apart k hk (.inl a)
      · have := h.pg.lt k hk; omega
    · exact h.apart k hk (.inr a)
end

/-- The disk of a law when it begins: made, formatted, opened. -/
def S0 (n : Nat) : DS := (openS (markS (DS.new n) 0 1).2).2.2

section
variable {D : World → (Nat → Prop) → Addr → DS → Prop}
set_option maxHeartbeats 4000000 in
theorem fresh_any (api : DiskApi D) {n : Nat} (hn : 3 ≤ n ∧ n ≤ 65536) (w : World) (ht : Tab w ∧ 1 < w.heap.size) :
    Calls Tryz.prog 10 #[.int .i64 (n : Int)] w fun e w' => ∃ r xr b q q' F O G p xa, e = .returned (.tuple #[.pointer (some ⟨r, 0, none⟩), .pointer (some ⟨xr, 0, none⟩)]) ∧ TwoPg D w w' F O G p xa (S0 n) (S0 n) q q' 1 1 r b xr (.slice none 0 0) [] [] := by
  obtain ⟨r1, r2, r3, r4, r5, r6, r7⟩ := fresh_log (m := n) hn
  have hfw := law_fresh_open (m := n) hn
  have hpg : 0 < pagesOf ((n : Nat) : Int) := by
    unfold pagesOf
    split <;> omega
  have HN := Lib.hid (law_new api (w0 := w) (w := w) (n := (n : Int)) (by omega) (by omega) ht (Below.refl _ _))
  rw [Int.toNat_natCast] at HN
  go_enter Tryz.func10, Tryz.ntmps10
  go_wp2_with fail
  refine HN.out.mono ?_
  rintro e w1 ⟨p, F1, rfl, L1, _⟩
  have HFM := Lib.hid (law_format api L1 (show (DS.new n).writes ≤ _ from Nat.zero_le _))
  rw [r1] at HFM
  clear L1 HN
  go_wp2_with fail
  refine HFM.out.mono ?_
  rintro e w2 ⟨rfl, F2, L2, _⟩
  have HO := Lib.hid (law_open_ok api L2 hfw r2)
  rw [r3] at HO
  clear L2 HFM
  go_wp2_with fail
  refine HO.out.mono ?_
  rintro e w3 ⟨q, F3, rfl, hq3, L3, _⟩
  have HNP := Lib.hid (pnew_any api L3.d L3.log L3.qF (by
    show 0 < pagesOf ((openS (markS (DS.new n) 0 1).2).2.2.n : Int)
    rw [r5]
    exact hpg))
  have HL3 := Lib.hid L3
  clear L3 HO
  go_wp2_with fail
  refine HNP.out.mono ?_
  rintro e w4 ⟨r, b, rfl, hr4, hb4, P4, hbel4⟩
  have hlaw : LawP D w w4 F3 (pgO F3 q r b) p (S0 n) q 1 r b [] := by
    have hbs := HL3.out.bel.size
    refine ⟨P4, fun k hk => ?_, HL3.out.bel.trans (hbel4.mono hbs), ht⟩
    rcases hk with a | a | a | a
    · exact HL3.out.out k a
    · have := HL3.out.q0; omega
    · omega
    · omega
  have HLAW := Lib.hid hlaw
  have HNR := Lib.hid (refNew_any (n : Int) w4 (by omega))
  rw [Int.toNat_natCast] at HNR
  clear hlaw P4 HNP
  go_wp2_with fail
  refine HNR.out.mono ?_
  rintro e w5 ⟨xa, G5, rfl, hx5, hb5, hG5⟩
  have HR5 := Lib.hid (And.intro hx5 (And.intro hb5 hG5))
  have HFR := Lib.hid (refFormat_any hx5 (show (DS.new n).writes ≤ _ from Nat.zero_le _))
  rw [r1] at HFR
  clear hx5 hb5 hG5 HNR
  go_wp2_with fail
  refine HFR.out.mono ?_
  rintro e w6 ⟨rfl, G6, r6', t6, n6⟩
  have HOR := Lib.hid (refOpen_any r6' hfw)
  have HK6 := Lib.hid (And.intro t6 n6)
  clear r6' t6 n6 HFR
  go_wp2_with fail
  refine HOR.out.mono ?_
  rintro e w7 (⟨h1, _⟩ | ⟨_, q', G7, rfl, hq', rl, rg, rr, t7, n7⟩)
  · exact absurd r2 h1
  rw [r3] at rl
  have hX : Below w7.heap.size w7 (w7.alloc (.cells #[.pointer (some ⟨q', 0, none⟩), .slice none 0 0] 41)) := (Below.refl _ _).alloc (Nat.le_refl _) _
  have hs5 := HR5.out.2.1.size
  have hs6 := HK6.out.1.size
  have hs7 := t7.size
  have hlow5 : ∀ k, G5 k → w4.heap.size ≤ k := HR5.out.2.2
  have hlow6 : ∀ k, G6 k → w4.heap.size ≤ k := fun k hk => by
    rcases HK6.out.2 k hk with a | a
    · exact hlow5 k a
    · omega
  have hlow7 : ∀ k, G7 k → w4.heap.size ≤ k := fun k hk => by
    rcases n7 k hk with a | a
    · exact hlow6 k a
    · omega
  have hb47 : Below w4.heap.size w4 w7 := (HR5.out.2.1.trans (HK6.out.1.below hlow5 hs5)).trans (t7.below hlow6 (by omega))
  have hw04 := HLAW.out.bel.size
  have hOlt := HLAW.out.pg.lt
  have hE : TwoPg D w (w7.alloc (.cells #[.pointer (some ⟨q', 0, none⟩), .slice none 0 0] 41)) F3 (pgO F3 q r b) G7 p xa (S0 n) (S0 n) q q' 1 1 r b w7.heap.size (.slice none 0 0) [] [] := by
    refine ⟨(HLAW.out.later api hb47).later api hX, ⟨rr.keep (fun k hk => hX.block k (rr.lt k hk)), rl.keep (hX.block q' rl.cells.2.2.2), rg, heap_alloc_new _ _, fun hg => ?_, ?_, PRow.start _ _ _ _ _, fun _ => rfl⟩, fun k hk => ?_, by omega, by omega, fun k hk hx => ?_⟩
    · have := rr.lt _ hg; omega
    · have := rl.cells.2.2.2; omega
    · have := hlow7 k hk; omega
    · have := hOlt k hk
      rcases hx with a | a | a
      · have := hlow7 k a; omega
      · omega
      · omega
  have HE := Lib.hid hE
  clear hE hX rl rg rr t7 n7 hb47 HR5 HK6 HOR HLAW hOlt hlow5 hlow6 hlow7
  go_wp2
  go_ret2
  exact ⟨r, w7.heap.size, b, q, q', F3, _, G7, p, xa, rfl, HE.out⟩
end

end Go.Proofs.YtkpmfobmlaldfaaGreatDoor

/-
  Contracts of the plain pager's Get and Changed. No condition beyond where it lies.
-/
namespace Go.Proofs.YtkpmfobmlaldfaaGreatDoor
open Go.RowKit
set_option maxRecDepth 100000
set_option linter.unusedVariables false

theorem atL_first {i : Int} : ∀ {M : List (Int × List Int)} {k : Nat} {y : Int × List Int}, (∀ t z, t < k → M[t]? = some z → z.1 ≠ i) → M[k]? = some y → y.1 = i → atL M i = some y.2
  | [], k, y, _, hk, _ => by simp at hk
  | (j, l) :: r, 0, y, _, hk, hy => by
    simp at hk
    subst hk
    unfold atL
    simp only at hy
    rw [if_pos hy]
  | (j, l) :: r, k + 1, y, hn, hk, hy => by
    have h0 : j ≠ i := hn 0 (j, l) (Nat.succ_pos _) rfl
    unfold atL
    rw [if_neg h0]
    exact atL_first (fun t z ht hz => hn (t + 1) z (Nat.succ_lt_succ ht) (by simpa using hz)) (by simpa using hk) hy
theorem atL_all {i : Int} {M : List (Int × List Int)} (h : ∀ t z, t < M.length → M[t]? = some z → z.1 ≠ i) : atL M i = none :=
  atL_none fun x hx => by
    obtain ⟨t, ht, e⟩ := List.getElem_of_mem hx
    exact h t x ht (by rw [List.getElem?_eq_getElem ht, e])

section
variable {w w' : World} {G Z : Nat → Prop} {xa : Addr} {T : DS} {q' xr base : Nat} {t : Int} {v : Value} {M : List (Int × List Int)}

set_option maxHeartbeats 3200000 in
theorem rpget_any (h : RPg w G Z base xa T q' t xr v M) (hM : M.length ≤ 65536) (hall : ∀ y ∈ M, y.2.length = 240) (i : Int) :
    Calls Tryz.prog 16 #[.pointer (some ⟨xr, 0, none⟩), .int .i64 i] w fun e w' => ∃ A n c, e = .returned (.tuple #[.slice A n c, .int .i64 (getPg T M i).2]) ∧ n ≤ c ∧ RB w' w'.heap.size A n (getPg T M i).1 ∧ Below w.heap.size w w' := by
  obtain ⟨A, c, rfl, hc, hl⟩ := h.row.imgs (by decide)
  obtain ⟨m0, m1, _, hxl⟩ := h.cells
  have HLD := Lib.hid (refLoad_any h.ref h.log i)
  have HL := Lib.hid hl
  have hn63 : M.length ≤ 9223372036854775807 := by omega
  generalize hN : M.length = N at *
  have HN := Lib.hid hN
  clear h hl hN
  go_enter Tryz.func16, Tryz.ntmps16
  go_wp2
  go_loop [6] (fun x => ∃ k : Nat, k ≤ N ∧ x = .int .i64 k ∧ Hid (∀ t z, t < k → M[t]? = some z → z.1 ≠ i)) (fun x => N - (intOf x).toNat)
  case atStart => exact ⟨0, Nat.zero_le _, rfl, Lib.hid (fun t z ht => absurd ht (by omega))⟩
  case round =>
    obtain ⟨k, hk, rfl, hbef⟩ := hrel
    by_cases hlt : k < N
    · have hlt' : (k : Int) < (N : Int) := by omega
      obtain ⟨y, hy⟩ : ∃ y, M[k]? = some y := ⟨_, List.getElem?_eq_getElem (by rw [HN.out]; exact hlt)⟩
      obtain ⟨b, rfl, _, hbl, hat⟩ := HL.out.2 (by omega)
      obtain ⟨c1, D, m, cm, c2, hmc, hm63, hrb, _⟩ := hat k y hy
      have HY := Lib.hid hy
      have HRB := Lib.hid hrb
      obtain ⟨p, l⟩ := y
      simp only at c1
      clear hat hrb hy
      by_cases he : p = i
      · have hg : getPg T M i = (l, 0) := by
          unfold getPg
          rw [atL_first hbef.out HY.out he]
        have k1 : (p == i) = true := by simpa using he
        obtain rfl : m = 240 := by
          rw [← HRB.out.len]
          exact hall _ (List.mem_of_getElem? HY.out)
        have HG := Lib.hid hg
        clear he hg
        go_wp2_with (at_builtin; refine wpList_append_bytes rfl _ _ rfl w.heap.size (.slice none 0 0) 0 [] rfl ⟨rfl, .inl ⟨rfl, rfl⟩⟩ _ D 240 cm l rfl HRB.out (by decide) (Nat.le_refl _) ?_; intro v1 w1 hown1 hg1 hb1; have HO1 := Lib.hid hown1; have HB1 := Lib.hid hb1; clear hown1 hg1 hb1)
        go_ret2
        obtain ⟨A1, n1, rfl, hn1, hr1⟩ := read_own HO1.out HRB.out.bytes
        rw [HG.out]
        exact ⟨A1, 240, n1, rfl, hn1, hr1, HB1.out⟩
      · have k1 : (p == i) = false := by simpa using he
        have HNX := Lib.hid (show ∀ t z, t < k + 1 → M[t]? = some z → z.1 ≠ i from fun t z ht hz => by
          rcases Nat.lt_or_ge t k with a | a
          · exact hbef.out t z a hz
          · obtain rfl : t = k := by omega
            rw [HY.out] at hz
            cases hz
            exact he)
        clear he
        go_wp2
        go_round
        case rel => exact ⟨k + 1, by omega, by go_num, HNX⟩
        case measure => simp [intOf]; omega
    · obtain rfl : k = N := by omega
      have hg : getPg T M i = loadS T i := by
        unfold getPg
        rw [atL_all (by rw [HN.out]; exact hbef.out)]
      have HG := Lib.hid hg
      clear hg
      go_wp2_with fail
      refine HLD.out.mono ?_
      rintro e w1 ⟨A1, n1, c1, rfl, hc1, hr1, hb1⟩
      have HE := Lib.hid (And.intro hr1 hb1)
      clear hr1 hb1
      go_wp2
      go_ret2
      rw [HG.out]
      exact ⟨A1, n1, c1, rfl, hc1, HE.out.1, HE.out.2⟩

set_option maxHeartbeats 3200000 in
theorem rpchanged_any (h : RPg w G Z base xa T q' t xr v M) (hM : M.length ≤ 65536) (hall : ∀ y ∈ M, -9223372036854775808 ≤ y.1 ∧ y.1 ≤ 9223372036854775807) :
    Calls Tryz.prog 23 #[.pointer (some ⟨xr, 0, none⟩)] w fun e w' => ∃ (A : Option Addr) (c : Nat), e = .returned (.slice A M.length c) ∧ M.length ≤ c ∧ RI w' w'.heap.size A M.length (M.map (·.1)) ∧ Below w.heap.size w w' := by
  obtain ⟨A, c, rfl, hc, hl⟩ := h.row.imgs (by decide)
  obtain ⟨_, m1, _, hxl⟩ := h.cells
  have HL := Lib.hid (fun (w1 : World) (hb : Below w.heap.size w w1) => hl.keep hb.size (fun _ _ h => h) (fun k hk _ => hb.block k hk))
  have HM1 := Lib.hid m1
  have hbd : ∀ x ∈ M.map (·.1), -9223372036854775808 ≤ x ∧ x ≤ 9223372036854775807 := fun x hx => by
    obtain ⟨y, hy, rfl⟩ := List.mem_map.1 hx
    exact hall y hy
  have HBD := Lib.hid hbd
  have hn63 : M.length ≤ 9223372036854775807 := by omega
  generalize hN : M.length = N at *
  have HN := Lib.hid hN
  have HS : Hid (w.ownsRow w.heap.size 3 1 (.slice none 0 0) 0 (((M.take 0).map (·.1)).map (Value.int .i64))) := Lib.hid ⟨rfl, .inl ⟨rfl, rfl⟩⟩
  clear h hl hN m1 hall hbd
  go_enter Tryz.func23, Tryz.ntmps23
  go_wp2_with fail
  go_loopw [3, 4] (fun u x wr => ∃ k : Nat, k ≤ N ∧ x = .int .i64 k ∧ Hid (wr.ownsRow w.heap.size 3 1 u k (((M.take k).map (·.1)).map (Value.int .i64))) ∧ Hid (Below w.heap.size w wr)) (fun _ x _ => N - (intOf x).toNat)
  case atStart => exact ⟨0, Nat.zero_le _, rfl, HS, Lib.hid (Below.refl _ _)⟩
  case round =>
    clear HS
    obtain ⟨k, hk, rfl, hown, hbr⟩ := hrel
    have m1 := (hbr.out.cell (p := ⟨xr, 1, none⟩) hxl).trans HM1.out
    by_cases hlt : k < N
    · have hlt' : (k : Int) < (N : Int) := by omega
      have hkM : k < M.length := by rw [HN.out]; exact hlt
      obtain ⟨b, rfl, _, hbl, hat⟩ := (HL.out wr hbr.out).2 (by omega)
      obtain ⟨c1, _⟩ := hat k _ (List.getElem?_eq_getElem hkM)
      have HNX := Lib.hid (show (M.take (k + 1)).map (·.1) = (M.take k).map (·.1) ++ [M[k].1] from by
        rw [← List.take_append_getElem hkM, List.map_append]
        rfl)
      clear hat
      generalize M[k].1 = p at c1 HNX
      go_wp2_with (at_builtin; refine wpList_append_int rfl (.tmp 14) (.tmp 23) rfl w.heap.size u3 k _ rfl wr.heap.size p _ rfl (hown.out.alloc _) (heap_alloc_new _ _) (by omega) (by have := hbr.out.size; simp; omega) ?_; intro v3 w3 h3 hb3; have HB3 := Lib.hid ((hbr.out.alloc hbr.out.size _).trans hb3); have HO3 := Lib.hid h3; clear h3 hb3)
      go_round
      case rel => exact ⟨k + 1, by omega, by go_num, by rw [HNX.out]; exact HO3, HB3⟩
      case measure => simp [intOf]; omega
    · obtain rfl : k = N := by omega
      have HE := Lib.hid (show wr.ownsRow w.heap.size 3 1 u3 k ((M.map (·.1)).map (Value.int .i64)) from by
        have := hown.out
        rwa [List.take_of_length_le (by rw [HN.out]; exact Nat.le_refl _)] at this)
      go_wp2
      go_ret
      obtain ⟨A1, c1, rfl, hc1⟩ := int_own_shape HE.out
      exact ⟨A1, c1, rfl, hc1, (RI.of_own HE.out HBD.out).1, hbr.out⟩
end

end Go.Proofs.YtkpmfobmlaldfaaGreatDoor

/-
  Contract of the plain pager's Commit. Condition: its list may be committed, and the numbers are small enough.
-/
namespace Go.Proofs.YtkpmfobmlaldfaaGreatDoor
open Go.RowKit
set_option maxRecDepth 100000
set_option linter.unusedVariables false

/-- The end of what the plain pager did: its disk, log and list then. -/
def RpDone (w : World) (G Z : Nat → Prop) (base : Nat) (xa : Addr) (T' : DS) (q' : Nat) (t' : Int) (xr : Nat) (v : Value) (M' : List (Int × List Int)) (w' : World) : Prop :=
  ∃ G' v', RPg w' G' Z base xa T' q' t' xr v' M' ∧ Touch (rpY G q' xr v) w w' ∧ ∀ k, G' k → G k ∨ w.heap.size ≤ k

section
variable {w w' : World} {G Z : Nat → Prop} {xa : Addr} {T : DS} {q' xr base : Nat} {t : Int} {v : Value} {M : List (Int × List Int)}

/-- The plain log did something. -/
theorem RPg.did (h : RPg w G Z base xa T q' t xr v M) {r : Int × Int × DS} (hc : Committed w G xa q' r w') : ∃ G', RPg w' G' Z base xa r.2.2 q' r.2.1 xr v M ∧ Touch (fun k => G k ∨ k = q') w w' ∧ ∀ k, G' k → G k ∨ w.heap.size ≤ k := by
  obtain ⟨G', h1, h2, h3, ht, hG⟩ := hc
  have hxl := h.cells.2.2.2
  refine ⟨G', ⟨h1, h2, h3, (ht.block xr hxl (fun a => a.elim h.xG h.xq)).trans h.me, fun a => ?_, h.xq, h.row.keep (by decide) ht.size (fun k hk hx hx' => hx ?_) (fun k hk hx => ht.block k hk (fun a => hx (a.elim (fun a => .inl a) (fun a => .inr (.inl a))))), h.nil_⟩, ht, hG⟩
  · rcases hG xr a with a | a
    · exact h.xG a
    · omega
  · rcases hx' with a | a | a | a
    · rcases hG k a with a | a
      · exact .inl a
      · omega
    · exact .inr (.inl a)
    · exact .inr (.inr (.inl a))
    · exact .inr (.inr (.inr a))
/-- What was set is let go. -/
theorem RPg.nilled (h : RPg w G Z base xa T q' t xr v M) : RPg (w.setCell ⟨xr, 1, none⟩ (.slice none 0 0)) G Z base xa T q' t xr (.slice none 0 0) [] := by
  refine ⟨h.ref.keep (fun k hk => Below.heap_setCell _ _ _ _ (fun e => h.xG (by have e' : k = xr := e; rw [← e']; exact hk))), h.log.keep (Below.heap_setCell _ _ _ _ (fun e => h.xq e.symm)), h.qG, ?_, h.xG, h.xq, PRow.start _ _ _ _ _, fun _ => rfl⟩
  have := heap_setCell_same w xr 1 _ _ (.slice none 0 0) h.me
  exact this

set_option maxHeartbeats 3200000 in
theorem rpcommit_any (h : RPg w G Z base xa T q' t xr v M) (hby : ∀ y ∈ M, AllBytes y.2) (hM : M.length ≤ 65536) (hs : 0 ≤ t ∧ t < 4611686018427387904) (hw : T.writes ≤ 9223372036854500000) :
    Calls Tryz.prog 19 #[.pointer (some ⟨xr, 0, none⟩)] w fun e w' => e = .returned (.int .i64 (commitS T t M).1) ∧ RpDone w G Z base xa (commitS T t M).2.2 q' (commitS T t M).2.1 xr v (leftPg T t M) w' := by
  obtain ⟨A, c, rfl, hc, hl⟩ := h.row.imgs (by decide)
  have hd := h.below (Below.refl w.heap.size w).drew
  obtain ⟨m0, m1, _, hxl⟩ := h.cells
  obtain ⟨n0, n1, _, _⟩ := hd.cells
  have HC : Hid (Calls Tryz.prog 53 #[.pointer (some ⟨q', 0, none⟩), .slice A M.length c] w.drew fun e w' => e = .returned (.int .i64 (commitS T t M).1) ∧ ∃ G', RPg w' G' Z base xa (commitS T t M).2.2 q' (commitS T t M).2.1 xr (.slice A M.length c) M ∧ Touch (fun k => G k ∨ k = q') w w' ∧ ∀ k, G' k → G k ∨ w.heap.size ≤ k) := Lib.hid ((refCommit_any (w := w.drew) (A := A) (c := c) hd.ref hd.log hd.qG (hl.keep (Nat.le_refl _) (fun k _ hx hg => hx (.inl hg)) (fun k _ _ => rfl)) hby hM hs hw).mono (fun e w' hh => by
    obtain ⟨e1, e2⟩ := hh
    obtain ⟨G', r1, r2, r3⟩ := hd.did e2
    exact ⟨e1, G', r1, ⟨r2.os, r2.tape, r2.output, r2.size, r2.block⟩, r3⟩))
  have hlp : (commitS T t M).1 = 0 → leftPg T t M = [] := fun e => by unfold leftPg; rw [if_pos e]
  have hln : ¬ (commitS T t M).1 = 0 → leftPg T t M = M := fun e => by unfold leftPg; rw [if_neg e]
  have HL := Lib.hid (And.intro hlp hln)
  clear h hd hl hlp hln
  generalize leftPg T t M = LP at *
  generalize (commitS T t M) = R at *
  obtain ⟨re, rs, rT⟩ := R
  go_enter Tryz.func19, Tryz.ntmps19
  go_wp2_with fail
  go_region_with (go_at_call 53; refine HC.out.mono ?_; rintro e w2 ⟨rfl, G', hR, ht, hG⟩; have HR := Lib.hid (And.intro hR (And.intro ht hG)); clear hR ht hG)
  all_goals
    clear m0 m1 n0 n1 HC
    obtain ⟨_, x1, f1, _⟩ := HR.out.1.cells
    have HT := Lib.hid (show Touch (rpY G q' xr (.slice A M.length c)) w w2 from ⟨HR.out.2.1.os, HR.out.2.1.tape, HR.out.2.1.output, HR.out.2.1.size, fun k hk hn => HR.out.2.1.block k hk (fun a => hn (a.elim (fun a => .inl a) (fun a => .inr (.inl a))))⟩)
    by_cases he : re = 0
    · subst he
      have hLP : LP = [] := HL.out.1 rfl
      subst hLP
      have HE : Hid (RpDone w G Z base xa rT q' rs xr (.slice A M.length c) [] (w2.setCell ⟨xr, 1, none⟩ (.slice none 0 0))) := Lib.hid ⟨G', .slice none 0 0, HR.out.1.nilled, ⟨HT.out.os, HT.out.tape, HT.out.output, Nat.le_trans HT.out.size (by simp), fun k hk hn => (Below.heap_setCell _ _ _ _ (fun e => hn (.inr (.inr (.inl e))))).trans (HT.out.block k hk hn)⟩, HR.out.2.2⟩
      clear HR HT
      go_wp2
      go_ret
      exact ⟨rfl, HE.out⟩
    · have hLP : LP = M := HL.out.2 he
      have k1 : (re != 0) = true := by simpa using he
      have HE : Hid (RpDone w G Z base xa rT q' rs xr (.slice A M.length c) LP w2) := Lib.hid ⟨G', .slice A M.length c, by rw [hLP]; exact HR.out.1, HT.out, HR.out.2.2⟩
      clear HR HT hLP HL he
      go_wp2
      go_ret
      exact ⟨rfl, HE.out⟩
end

end Go.Proofs.YtkpmfobmlaldfaaGreatDoor

/-
  Plain: where a page is set in a rising list; a place of a row of images written over. No program.
-/
namespace Go.Proofs.YtkpmfobmlaldfaaGreatDoor
open Go.RowKit
set_option maxRecDepth 100000
set_option linter.unusedVariables false

theorem setL_at {i : Int} {l : List Int} : ∀ {M : List (Int × List Int)} {k : Nat} {y : Int × List Int}, (∀ t z, t < k → M[t]? = some z → z.1 < i) → M[k]? = some y → y.1 = i → setL M i l = M.set k (i, l)
  | [], k, y, _, hk, _ => by simp at hk
  | x :: r, 0, y, _, hk, hy => by
    simp at hk
    subst hk
    unfold setL
    rw [if_neg (by omega), if_pos hy]
    rfl
  | x :: r, k + 1, y, hn, hk, hy => by
    have h0 : x.1 < i := hn 0 x (Nat.succ_pos _) rfl
    unfold setL
    rw [if_pos h0, setL_at (fun t z ht hz => hn (t + 1) z (Nat.succ_lt_succ ht) (by simpa using hz)) (by simpa using hk) hy]
    rfl
theorem setL_in {i : Int} {l : List Int} : ∀ {M : List (Int × List Int)} {k : Nat}, (∀ t z, t < k → M[t]? = some z → z.1 < i) → (∀ y, M[k]? = some y → i < y.1) → k ≤ M.length → setL M i l = M.take k ++ (i, l) :: M.drop k
  | [], k, _, _, hk => by
    obtain rfl : k = 0 := by simpa using hk
    rfl
  | x :: r, 0, _, h2, _ => by
    have h0 : i < x.1 := h2 x rfl
    unfold setL
    rw [if_neg (by omega), if_neg (by omega)]
    rfl
  | x :: r, k + 1, hn, h2, hk => by
    have h0 : x.1 < i := hn 0 x (Nat.succ_pos _) rfl
    unfold setL
    rw [if_pos h0, setL_in (fun t z ht hz => hn (t + 1) z (Nat.succ_lt_succ ht) (by simpa using hz)) (fun y hy => h2 y (by simpa using hy)) (by simpa using hk)]
    rfl

/-- A place of the row has another slice now. -/
theorem PRow.over {e m : Nat} {w : World} {F : Nat → Prop} {base g k : Nat} {v u : Value} {l : List (Int × List Int)} {x : Int} {b b0 : List Int} (hm : 0 < m) (h : PRow e m w F base v l) (hv : v.ownBlock = some g) (hk : l[k]? = some (x, b0)) (hu : Far w F v u m b) :
    PRow e m (w.setCell ⟨g, k * 2 + 1, none⟩ u) F base v (l.set k (x, b)) := by
  obtain ⟨vs, h1, h2⟩ := h.row
  have hkl := (List.getElem?_eq_some_iff.1 hk).1
  have far : ∀ {z : Value} {y : List Int}, Far w F v z m y → Far (w.setCell ⟨g, k * 2 + 1, none⟩ u) F v z m y := fun ha =>
    ha.keep hm (by simp) (fun _ _ h => h) (fun j _ _ hne => Below.heap_setCell _ _ _ _ (fun e => hne (by have e' : j = g := e; rw [hv, e'])))
  rcases h1.2 with ⟨rfl, h0⟩ | ⟨g', cap, cur, rfl, hb, hg, hc, hcm, hcs, htake⟩
  · omega
  · obtain rfl : g' = g := by simpa [Value.ownBlock] using hv
    refine ⟨⟨vs.set (k * 2 + 1) u, ⟨by rw [List.length_set, List.length_set]; exact h1.1, .inr ⟨g', cap, cur.setIfInBounds (k * 2 + 1) u, by rw [List.length_set], hb, heap_setCell_same w g' (k * 2 + 1) _ _ u hg, by rw [List.length_set]; exact hc, hcm, by rw [Array.size_setIfInBounds]; exact hcs, ?_⟩⟩, fun i y hy => ?_⟩, h.out⟩
    · rw [List.length_set, Array.toList_setIfInBounds, List.take_set, htake]
    · rw [List.getElem?_set] at hy
      by_cases hik : k = i
      · subst hik
        rw [if_pos rfl, if_pos hkl] at hy
        cases hy
        obtain ⟨h3, z, h4, _⟩ := h2 k _ hk
        refine ⟨by rw [List.getElem?_set_ne (by omega)]; exact h3, u, ?_, far hu⟩
        rw [List.getElem?_set_self (by have := (List.getElem?_eq_some_iff.1 h4).1; omega)]
      · rw [if_neg hik] at hy
        obtain ⟨h3, z, h4, h5⟩ := h2 i y hy
        exact ⟨by rw [List.getElem?_set_ne (by omega)]; exact h3, z, by rw [List.getElem?_set_ne (by omega)]; exact h4, far h5⟩

end Go.Proofs.YtkpmfobmlaldfaaGreatDoor
