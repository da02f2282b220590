/-
  The texts ViewA, ViewB, ViewC joined. Conditions: those that each part says at its head.
-/
import Derived.Test.YtlcbmobdokicaaaGreatViewP
import Derived.Test.YtlcbmobdokicaaaGreatIntApp
import Derived.Test.YtlcbmobdokicaaaGreatEqual
import Derived.StillTailTactics
import Derived.Deep.RegionWith
import Derived.Deep.RegionHeld3
import Derived.Deep.RegionLaw
import Derived.Deep.QuietTactic
import Derived.BigRegion
import Derived.BigQuiet

/-
  A view over memory as it lies in memory: its three cells, the map that its store is, and the map of its changes; what keeps it; how it is looked up and stored into. Conditions: texts and values of at most 2^47 bytes.
-/
namespace Go.Proofs.YtlcbmobdokicaaaGreat
open Go.RowKit Go.Maps
set_option maxRecDepth 100000
set_option linter.unusedVariables false

theorem Touch.trans {F : Nat → Prop} {w w1 w2 : World} (h : Touch F w w1) (g : Touch F w1 w2) : Touch F w w2 :=
  ⟨g.os.trans h.os, g.tape.trans h.tape, g.output.trans h.output, Nat.le_trans h.size g.size, fun k hk hn => (g.block k (Nat.lt_of_lt_of_le hk h.size) hn).trans (h.block k hk hn)⟩
theorem Touch.mono {F G : Nat → Prop} {w w' : World} (h : Touch F w w') (hG : ∀ k, F k → G k) : Touch G w w' := ⟨h.os, h.tape, h.output, h.size, fun k hk hn => h.block k hk fun hf => hn (hG k hf)⟩
theorem Touch.grown {F : Nat → Prop} {w w1 w2 : World} {b : Nat} (h : Touch F w w1) (hg : w1.grownBy w2 (some b)) (hb : F b) : Touch F w w2 :=
  ⟨hg.os.trans h.os, hg.tape.trans h.tape, hg.output.trans h.output, Nat.le_trans h.size hg.size, fun k hk hn => (hg.block k (Nat.lt_of_lt_of_le hk h.size) (fun e => hn (by injection e with e; rw [e]; exact hb))).trans (h.block k hk hn)⟩

/-- A slice that reads as the bytes l, apart from the blocks X. -/
def SV (w : World) (X : Nat → Prop) (v : Value) (l : List Int) : Prop :=
  ∃ (A : Option Addr) (n c : Nat), v = .slice A n c ∧ n ≤ c ∧ n ≤ 140737488355328 ∧ RB w w.heap.size A n l ∧ ∀ a, A = some a → 0 < n → ¬ X a.block
theorem SV.keep {w w' : World} {X X' : Nat → Prop} {v : Value} {l : List Int} (h : SV w X v l) (hs : w.heap.size ≤ w'.heap.size) (hX : ∀ k, k < w.heap.size → ¬ X k → ¬ X' k) (hk : ∀ k, k < w.heap.size → ¬ X k → w'.heap[k]? = w.heap[k]?) : SV w' X' v l := by
  obtain ⟨A, n, c, rfl, h1, h2, h3, h4⟩ := h
  refine ⟨A, n, c, rfl, h1, h2, ⟨h3.1, h3.2.1, fun hn => ?_⟩, fun a ha hn => ?_⟩
  · obtain ⟨bb, o, e, hbb, hc⟩ := h3.2.2 hn
    exact ⟨bb, o, e, Nat.lt_of_lt_of_le hbb hs, fun j hj => (World.cell?_of_block (a := ⟨bb, o + j, none⟩) (hk bb hbb (h4 _ e hn))).trans (hc j hj)⟩
  · obtain ⟨bb, o, e, hbb, _⟩ := h3.2.2 hn
    rw [ha] at e
    cases e
    exact hX _ hbb (h4 _ ha hn)

/-- What a map of changes holds for a change. -/
def chVal (w : World) (X : Nat → Prop) (u : Value) : Option (List Int) → Prop
  | none => u = .agg #[.bool false, .slice none 0 0]
  | some l => ∃ v, u = .agg #[.bool true, v] ∧ SV w X v l
theorem chVal.keep {w w' : World} {X X' : Nat → Prop} {u : Value} {c : Option (List Int)} (h : chVal w X u c) (hs : w.heap.size ≤ w'.heap.size) (hX : ∀ k, k < w.heap.size → ¬ X k → ¬ X' k) (hk : ∀ k, k < w.heap.size → ¬ X k → w'.heap[k]? = w.heap[k]?) : chVal w' X' u c := by
  cases c with
  | none => exact h
  | some l =>
    obtain ⟨v, e, h1⟩ := h
    exact ⟨v, e, h1.keep hs hX hk⟩

/-- The map at block b holds the list L, each element as R says. -/
def MapL {β : Type} (R : World → (Nat → Prop) → Value → β → Prop) (w : World) (X : Nat → Prop) (b : Nat) (L : List (Txt × β)) : Prop :=
  ∃ f, SMap w b L.length f ∧ ∀ x, (lookT L x = none → f x = none) ∧ ∀ c, lookT L x = some c → ∃ u, f x = some u ∧ R w X u c
/-- What R says stands while blocks that are not X's do. -/
def Kept {β : Type} (R : World → (Nat → Prop) → Value → β → Prop) : Prop := ∀ {w w' : World} {X X' : Nat → Prop} {u : Value} {c : β}, R w X u c → w.heap.size ≤ w'.heap.size → (∀ k, k < w.heap.size → ¬ X k → ¬ X' k) → (∀ k, k < w.heap.size → ¬ X k → w'.heap[k]? = w.heap[k]?) → R w' X' u c
theorem sv_kept : Kept SV := fun h hs hX hk => h.keep hs hX hk
theorem ch_kept : Kept chVal := fun h hs hX hk => h.keep hs hX hk

section
variable {β : Type} {R : World → (Nat → Prop) → Value → β → Prop} {w w' : World} {X X' : Nat → Prop} {b : Nat} {L : List (Txt × β)}
theorem MapL.keep (HK : Kept R) (h : MapL R w X b L) (hs : w.heap.size ≤ w'.heap.size) (hX : ∀ k, k < w.heap.size → ¬ X k → ¬ X' k) (hk : ∀ k, k < w.heap.size → ¬ X k → w'.heap[k]? = w.heap[k]?) (hb : w'.heap[b]? = w.heap[b]?) : MapL R w' X' b L := by
  obtain ⟨f, h1, h2⟩ := h
  refine ⟨f, h1.of_block hb, fun x => ⟨(h2 x).1, fun c hc => ?_⟩⟩
  obtain ⟨u, e, hu⟩ := (h2 x).2 c hc
  exact ⟨u, e, HK hu hs hX hk⟩
theorem MapL.made (w : World) (X : Nat → Prop) : MapL R (w.alloc (.map #[] 0)) X w.heap.size [] := ⟨_, SMap.made w, fun x => ⟨fun _ => rfl, fun c h => by cases h⟩⟩
theorem MapL.lt (h : MapL R w X b L) : b < w.heap.size := by
  obtain ⟨f, h1, _⟩ := h
  exact h1.lt
theorem SMap.few {n : Nat} {f : Txt → Option Value} (h : SMap w b n f) (hf : ∀ x, lookT L x = none → f x = none) : SMap w b L.length f := by
  have := h.tight (L.map (·.1)) fun i hi => by
    cases hl : lookT L i with
    | none => exact absurd (hf i hl) hi
    | some c => exact List.mem_map.2 ⟨_, lookT_mem hl, rfl⟩
  simpa using this
/-- An element is stored: it is as R says, in what the map's store leaves. -/
theorem MapL.store (HK : Kept R) (h : MapL R w X b L) (hup : RiseT L) (hXb : X b) {t e : TypeId} (ht : Tryz.prog.underlying t = some (.map 9 e)) (hn : L.length < maxLen) {x : Txt} (hx : x.length ≤ maxLen) {u : Value} {c : β} (hu : R w X u c) :
    ∃ w', (Instr.mapUpdate t (.map (some b)) (encStr x) u).run Tryz.prog w = .ok () w' ∧ MapL R w' X b (setT L x c) ∧ w.grownBy w' (some b) := by
  obtain ⟨f, h1, h2⟩ := h
  obtain ⟨w', hrun, h3, hg⟩ := h1.store ht hn hx u
  have hk : ∀ k, k < w.heap.size → ¬ X k → w'.heap[k]? = w.heap[k]? := fun k hk hn => hg.block k hk fun e => hn (by injection e with e; rw [e]; exact hXb)
  have hf : ∀ y, lookT (setT L x c) y = none → (if y = x then some u else f y) = none := by
    intro y hy
    rw [lookT_setT hup] at hy
    by_cases e : x = y
    · rw [if_pos e] at hy; cases hy
    · rw [if_neg e] at hy
      rw [if_neg (fun e' => e e'.symm)]
      exact (h2 y).1 hy
  refine ⟨w', hrun, ⟨_, h3.few hf, fun y => ⟨hf y, fun d hd => ?_⟩⟩, hg⟩
  rw [lookT_setT hup] at hd
  by_cases e : x = y
  · rw [if_pos e] at hd
    cases hd
    exact ⟨u, by rw [if_pos e.symm], HK hu hg.size (fun _ _ h => h) hk⟩
  · rw [if_neg e] at hd
    obtain ⟨u', e1, hu'⟩ := (h2 y).2 d hd
    exact ⟨u', by rw [if_neg (fun e' => e e'.symm)]; exact e1, HK hu' hg.size (fun _ _ h => h) hk⟩
theorem MapL.delete (HK : Kept R) (h : MapL R w X b L) (hXb : X b) {t e : TypeId} (ht : Tryz.prog.underlying t = some (.map 9 e)) {x : Txt} (hx : x.length ≤ maxLen) (ty : TypeId) :
    ∃ w', (Builtin.delete_ #[t, 9] ty #[.map (some b), encStr x]).run Tryz.prog w = .ok (.tuple #[]) w' ∧ MapL R w' X b (delT L x) ∧ w.grownBy w' (some b) := by
  obtain ⟨f, h1, h2⟩ := h
  obtain ⟨w', hrun, h3, hg⟩ := h1.delete ht hx ty
  have hk : ∀ k, k < w.heap.size → ¬ X k → w'.heap[k]? = w.heap[k]? := fun k hk hn => hg.block k hk fun e => hn (by injection e with e; rw [e]; exact hXb)
  have hf : ∀ y, lookT (delT L x) y = none → (if y = x then none else f y) = none := by
    intro y hy
    rw [lookT_delT] at hy
    by_cases e : y = x
    · rw [if_pos e]
    · rw [if_neg e]
      rw [if_neg (fun e' => e e'.symm)] at hy
      exact (h2 y).1 hy
  refine ⟨w', hrun, ⟨_, h3.few hf, fun y => ⟨hf y, fun d hd => ?_⟩⟩, hg⟩
  rw [lookT_delT] at hd
  by_cases e : x = y
  · rw [if_pos e] at hd; cases hd
  · rw [if_neg e] at hd
    obtain ⟨u', e1, hu'⟩ := (h2 y).2 d hd
    exact ⟨u', by rw [if_neg (fun e' => e e'.symm)]; exact e1, HK hu' hg.size (fun _ _ h => h) hk⟩
theorem MapL.clear_ (h : MapL R w X b L) {t e : TypeId} (ht : Tryz.prog.underlying t = some (.map 9 e)) (ty : TypeId) :
    ∃ w', (Builtin.clear_ #[t] ty #[.map (some b)]).run Tryz.prog w = .ok (.tuple #[]) w' ∧ MapL R w' X b [] ∧ w.grownBy w' (some b) := by
  obtain ⟨f, h1, h2⟩ := h
  obtain ⟨w', hrun, h3, hg⟩ := h1.clear_ ht ty
  exact ⟨w', hrun, ⟨_, h3, fun y => ⟨fun _ => rfl, fun d hd => by cases hd⟩⟩, hg⟩
/-- A look-up, comma ok, in each world in which the map's block stands. -/
theorem MapL.look (h : MapL R w X b L) {t e : TypeId} (ht : Tryz.prog.underlying t = some (.map 9 e)) {z : Value} (hz : ∀ w, (zeroValue e).run Tryz.prog w = .ok z w) {x : Txt} (hx : x.length ≤ maxLen) :
    ∃ u, (∀ W, W.heap[b]? = w.heap[b]? → (Instr.lookup t (.map (some b)) (encStr x) true).run Tryz.prog W = .ok (.tuple #[u, .bool (lookT L x).isSome]) W) ∧ (lookT L x = none → u = z) ∧ ∀ c, lookT L x = some c → R w X u c := by
  obtain ⟨f, h1, h2⟩ := h
  have hr := fun W (e : W.heap[b]? = w.heap[b]?) => (h1.of_block e).look ht (hz W) hx
  cases hl : lookT L x with
  | none =>
    rw [(h2 x).1 hl] at hr
    exact ⟨z, hr, fun _ => rfl, fun c hc => by cases hc⟩
  | some c =>
    obtain ⟨u, e, hu⟩ := (h2 x).2 c hl
    rw [e] at hr
    exact ⟨u, hr, (fun h => by cases h), fun c' hc => by cases hc; exact hu⟩
theorem MapL.get (h : MapL R w X b L) {t e : TypeId} (ht : Tryz.prog.underlying t = some (.map 9 e)) {z : Value} (hz : (zeroValue e).run Tryz.prog w = .ok z w) {x : Txt} (hx : x.length ≤ maxLen) {c : β} (hl : lookT L x = some c) :
    ∃ u, (Instr.lookup t (.map (some b)) (encStr x) false).run Tryz.prog w = .ok u w ∧ R w X u c := by
  obtain ⟨f, h1, h2⟩ := h
  obtain ⟨u, e, hu⟩ := (h2 x).2 c hl
  exact ⟨u, h1.get ht hz hx e, hu⟩
end

/-- A view at block v over memory: its store's map at block m, its changes' map at block c; all that it leans on but these stands apart from the blocks X. -/
structure ViewAt (w : World) (X : Nat → Prop) (v m c : Nat) (S : VS) : Prop where
  me : w.heap[v]? = some (.cells #[.iface 118 (.map (some m)), .map (some c), .int .i64 0] 123 (0, 0))
  mem : MapL SV w X m S.W
  chg : MapL chVal w X c S.C
  mc : m ≠ c
  xv : X v
  xm : X m
  xc : X c
  ok : S.Ok
  lt : ∀ k, X k → k < w.heap.size

section
variable {w w' : World} {X X' : Nat → Prop} {v m c : Nat} {S : VS}
theorem ViewAt.cells (h : ViewAt w X v m c S) : w.cell? ⟨v, 0, none⟩ = some (.iface 118 (.map (some m))) ∧ w.cell? ⟨v, 1, none⟩ = some (.map (some c)) ∧ w.cell? ⟨v, 2, none⟩ = some (.int .i64 0) ∧ v < w.heap.size := by
  refine ⟨?_, ?_, ?_, (Array.getElem?_eq_some_iff.1 h.me).1⟩
  · rw [cell_of_row w v 0 _ _ (0, 0) h.me]; rfl
  · rw [cell_of_row w v 1 _ _ (0, 0) h.me]; rfl
  · rw [cell_of_row w v 2 _ _ (0, 0) h.me]; rfl
theorem ViewAt.vm (h : ViewAt w X v m c S) : v ≠ m ∧ v ≠ c := by
  obtain ⟨f, h1, _⟩ := h.mem
  obtain ⟨g, h2, _⟩ := h.chg
  obtain ⟨es, k, e⟩ := h1.block
  obtain ⟨es', k', e'⟩ := h2.block
  have := h.me
  refine ⟨fun q => ?_, fun q => ?_⟩
  · rw [q, e] at this; cases this
  · rw [q, e'] at this; cases this
/-- Its three blocks, and all that are not X's, stand. -/
theorem ViewAt.keep (h : ViewAt w X v m c S) (hs : w.heap.size ≤ w'.heap.size) (hX : ∀ k, k < w.heap.size → ¬ X k → ¬ X' k) (hx : ∀ k, X k → X' k) (hlt : ∀ k, X' k → k < w'.heap.size) (hk : ∀ k, k < w.heap.size → (k = v ∨ k = m ∨ k = c ∨ ¬ X k) → w'.heap[k]? = w.heap[k]?) : ViewAt w' X' v m c S :=
  ⟨(hk v h.cells.2.2.2 (.inl rfl)).trans h.me, h.mem.keep sv_kept hs hX (fun k h1 h2 => hk k h1 (.inr (.inr (.inr h2)))) (hk m h.mem.lt (.inr (.inl rfl))), h.chg.keep ch_kept hs hX (fun k h1 h2 => hk k h1 (.inr (.inr (.inr h2)))) (hk c h.chg.lt (.inr (.inr (.inl rfl)))), h.mc, hx v h.xv, hx m h.xm, hx c h.xc, h.ok, hlt⟩
theorem ViewAt.below (h : ViewAt w X v m c S) (hb : Below w.heap.size w w') : ViewAt w' X v m c S :=
  h.keep hb.size (fun _ _ h => h) (fun _ h => h) (fun k hk => Nat.lt_of_lt_of_le (h.lt k hk) hb.size) (fun k hk _ => hb.block k hk)
theorem ViewAt.drew (h : ViewAt w X v m c S) : ViewAt w.drew X v m c S := h.below (Below.refl _ w).drew
theorem ViewAt.alloc (h : ViewAt w X v m c S) (o : Obj) : ViewAt (w.alloc o) X v m c S := h.below ((Below.refl _ w).alloc (Nat.le_refl _) o)
/-- The changes' map alone was written. -/
theorem ViewAt.turnC (h : ViewAt w X v m c S) {C' : List (Txt × Option (List Int))} (hg : w.grownBy w' (some c)) (hm : MapL chVal w' X c C') (hup : RiseT C') : ViewAt w' X v m c ⟨S.W, C'⟩ := by
  have hk : ∀ k, k < w.heap.size → k ≠ c → w'.heap[k]? = w.heap[k]? := fun k hk hn => hg.block k hk fun e => hn (by injection e)
  exact ⟨(hk v h.cells.2.2.2 h.vm.2).trans h.me, h.mem.keep sv_kept hg.size (fun _ _ h => h) (fun k h1 h2 => hk k h1 fun e => h2 (by rw [e]; exact h.xc)) (hk m h.mem.lt h.mc), hm, h.mc, h.xv, h.xm, h.xc, ⟨h.ok.w, hup⟩, fun k hk => Nat.lt_of_lt_of_le (h.lt k hk) hg.size⟩
/-- The store's map alone was written. -/
theorem ViewAt.turnM (h : ViewAt w X v m c S) {W' : TL} (hg : w.grownBy w' (some m)) (hm : MapL SV w' X m W') (hup : RiseT W') : ViewAt w' X v m c ⟨W', S.C⟩ := by
  have hk : ∀ k, k < w.heap.size → k ≠ m → w'.heap[k]? = w.heap[k]? := fun k hk hn => hg.block k hk fun e => hn (by injection e)
  exact ⟨(hk v h.cells.2.2.2 h.vm.1).trans h.me, hm, h.chg.keep ch_kept hg.size (fun _ _ h => h) (fun k h1 h2 => hk k h1 fun e => h2 (by rw [e]; exact h.xm)) (hk c h.chg.lt (fun e => h.mc e.symm)), h.mc, h.xv, h.xm, h.xc, ⟨hup, h.ok.c⟩, fun k hk => Nat.lt_of_lt_of_le (h.lt k hk) hg.size⟩
end

theorem cell_of_map {w : World} {b k : Nat} {es : Array MapEntry} (h : w.heap[b]? = some (.map es k)) (o : Nat) : w.cell? ⟨b, o, none⟩ = none := by simp [World.cell?, h]
theorem MapL.noCell {β : Type} {R : World → (Nat → Prop) → Value → β → Prop} {w : World} {X : Nat → Prop} {b : Nat} {L : List (Txt × β)} (h : MapL R w X b L) (o : Nat) : w.cell? ⟨b, o, none⟩ = none := by
  obtain ⟨f, h1, _⟩ := h
  obtain ⟨es, k, e⟩ := h1.block
  exact cell_of_map e o
/-- What a view's call leaves of all cells that were there: they stand. -/
theorem ViewAt.cellsKept {w w' : World} {X X' : Nat → Prop} {v m c : Nat} {S S' : VS} (h : ViewAt w X v m c S) (h' : ViewAt w' X' v m c S') (ht : Touch (fun k => k = m ∨ k = c) w w') : ∀ b o, b < w.heap.size → w'.cell? ⟨b, o, none⟩ = w.cell? ⟨b, o, none⟩ := by
  intro b o hb
  by_cases e1 : b = m
  · rw [e1, h.mem.noCell, h'.mem.noCell]
  · by_cases e2 : b = c
    · rw [e2, h.chg.noCell, h'.chg.noCell]
    · exact World.cell?_of_block (a := ⟨b, o, none⟩) (ht.block b hb (by rintro (a | a); exact e1 a; exact e2 a))

/-- A cell written with what it holds. -/
theorem setCell_same {w : World} {b o : Nat} {cs : Array Value} {T : TypeId} (h : w.heap[b]? = some (.cells cs T (0, 0))) {u : Value} (hu : cs[o]? = some u) : w.setCell ⟨b, o, none⟩ u = w := by
  have e1 : cs.setIfInBounds o u = cs := by
    apply Array.ext_getElem?
    intro i
    rw [Array.getElem?_setIfInBounds]
    split
    · rename_i e
      subst e
      split
      · exact hu.symm
      · rename_i h'
        exact absurd (Array.getElem?_eq_some_iff.1 hu).1 h'
    · rfl
  have e2 : (w.setCell ⟨b, o, none⟩ u).heap = w.heap := by
    apply Array.ext_getElem?
    intro k
    by_cases e : k = b
    · subst e
      rw [heap_setCell_same w k o cs T u h, e1]
      exact h.symm
    · exact heap_setCell_other w ⟨b, o, none⟩ k u e
  have e3 : w.setCell ⟨b, o, none⟩ u = { w with heap := (w.setCell ⟨b, o, none⟩ u).heap } := rfl
  rw [e3, e2]

/-- What is new: apart from all that was there. -/
theorem SV.far {w : World} {X Y : Nat → Prop} {v : Value} {l : List Int} (h : SV w X v l) (hY : ∀ k, Y k → X k) : SV w Y v l := by
  obtain ⟨A, n, c, rfl, h1, h2, h3, h4⟩ := h
  exact ⟨A, n, c, rfl, h1, h2, h3, fun a ha hn hy => h4 a ha hn (hY _ hy)⟩
theorem SV.bytes {w : World} {X : Nat → Prop} {v : Value} {l : List Int} (h : SV w X v l) : AllBytes l := by
  obtain ⟨A, n, c, rfl, h1, h2, h3, h4⟩ := h
  exact h3.bytes
theorem SV.nil_ (w : World) (X : Nat → Prop) (c : Nat) : SV w X (.slice none 0 c) [] := ⟨none, 0, c, rfl, Nat.zero_le _, Nat.zero_le _, RB.nil_, fun a h => by cases h⟩
theorem SV.of_own {w : World} {base n : Nat} {v : Value} {l : List Int} (h : w.ownsRow base 5 1 v n (l.map (Value.int .u8))) (hl : AllBytes l) (hn : n ≤ 140737488355328) {X : Nat → Prop} (hX : ∀ k, X k → k < base) : SV w X v l := by
  obtain ⟨A, c, rfl, hc⟩ := own_shape h
  refine ⟨A, n, c, rfl, hc, hn, RB.of_own h hl, fun a ha hp hx => ?_⟩
  subst ha
  have := own_ge h a.block (by
    rcases h.2 with ⟨e, h0⟩ | ⟨g, cap, cur, e, _⟩
    · omega
    · cases e; rfl)
  have := hX _ hx
  omega

set_option maxHeartbeats 400000 in
/-- slices.Clone on bytes: what is new. -/
theorem SCloneN_any {w : World} {B n : Nat} {A : Option Addr} {l : List Int} (c : Nat) (h : RB w B A n l) (hB : B ≤ w.heap.size) (hn : n ≤ 140737488355328) :
    Calls Tryz.prog 111 #[.slice A n c] w fun e w' => ∃ v, e = .returned v ∧ SV w' (fun k => k < w.heap.size) v l ∧ Below w.heap.size w w' := by
  have q22 : ∀ (w : World) (a : Option Addr) (n c n' c' : Nat), (binOp .eql 109 (.slice a n c) (.slice none n' c')).run Tryz.prog w = .ok (.bool a.isNone) w := fun w a n c n' c' => Lib.run_eql_slice_nil w _ _ a n c n' c' Tryz.underlying109
  rcases A with _ | ad
  · have hm : n = 0 := by
      rcases Nat.eq_zero_or_pos n with h0 | h0
      · exact h0
      · obtain ⟨b, off, e, _⟩ := h.at_ h0; cases e
    subst hm
    obtain rfl : l = [] := List.eq_nil_of_length_eq_zero h.len
    go_enter Tryz.func111, Tryz.ntmps111
    go_wp2
    go_ret
    exact ⟨_, rfl, SV.nil_ _ _ _, Below.refl _ _⟩
  · go_enter Tryz.func111, Tryz.ntmps111
    go_wp2_with (at_builtin; refine wpList_append_bytes rfl _ _ rfl w.heap.size _ 0 [] rfl (World.ownsRow_made w #[] 0 (Nat.le_refl _) (Nat.zero_le _) rfl) B (some ad) n c l rfl (h.alloc hB _) (by omega) (by simp) ?_; intro v1 w1 hown1 _ hb1)
    simp only [Nat.zero_add, List.nil_append] at hown1
    go_ret
    exact ⟨_, rfl, SV.of_own hown1 h.bytes hn (fun k hk => hk), ((Below.refl w.heap.size w).alloc (Nat.le_refl _) _).trans hb1⟩

end Go.Proofs.YtlcbmobdokicaaaGreat

/-
  Contracts of the view's small parts over memory: made, Err, meet, the memory's Get, look, Get, Abort. Conditions: texts and values of at most 2^47 bytes.
-/
namespace Go.Proofs.YtlcbmobdokicaaaGreat
open Go.RowKit Go.Maps
set_option maxRecDepth 100000
set_option linter.unusedVariables false

theorem zero_bytes (w : World) : (zeroValue 109).run Tryz.prog w = .ok (.slice none 0 0) w := by kernel_rfl
theorem zero_change (w : World) : (zeroValue 176).run Tryz.prog w = .ok (.agg #[.bool false, .slice none 0 0]) w := by kernel_rfl

section
variable {w w' : World} {X : Nat → Prop} {v m c : Nat} {S : VS}
theorem vMade_nil (w : World) : Calls Tryz.prog 87 #[.pointer none] w fun e w' => e = .returned (.bool false) ∧ w = w' := by
  go_enter Tryz.func87, Tryz.ntmps87
  go_wp2
  go_ret
  exact ⟨rfl, rfl⟩
theorem vMade_zero {r : Nat} (h : w.cell? ⟨r, 0, none⟩ = some .nilIface) : Calls Tryz.prog 87 #[.pointer (some ⟨r, 0, none⟩)] w fun e w' => e = .returned (.bool false) ∧ w = w' := by
  go_enter Tryz.func87, Tryz.ntmps87
  go_wp2
  go_ret
  exact ⟨rfl, rfl⟩
theorem vMade_any (h : ViewAt w X v m c S) : Calls Tryz.prog 87 #[.pointer (some ⟨v, 0, none⟩)] w fun e w' => e = .returned (.bool true) ∧ w = w' := by
  obtain ⟨c0, c1, c2, _⟩ := h.cells
  clear h
  go_enter Tryz.func87, Tryz.ntmps87
  go_wp2
  go_ret
  exact ⟨rfl, rfl⟩
theorem vErr_any (h : ViewAt w X v m c S) : Calls Tryz.prog 84 #[.pointer (some ⟨v, 0, none⟩)] w fun e w' => e = .returned (.int .i64 0) ∧ w = w' := by
  obtain ⟨c0, c1, c2, _⟩ := h.cells
  have HM := Lib.hid (vMade_any h)
  clear h
  go_enter Tryz.func84, Tryz.ntmps84
  go_wp2_with fail
  refine HM.out.mono ?_
  rintro e w' ⟨rfl, rfl⟩
  go_wp2
  go_ret
  exact ⟨rfl, rfl⟩
theorem vMeet_any (h : ViewAt w X v m c S) : Calls Tryz.prog 86 #[.pointer (some ⟨v, 0, none⟩), .int .i64 0] w fun e w' => e = .returned (.int .i64 0) ∧ w = w' := by
  obtain ⟨c0, c1, c2, _⟩ := h.cells
  have fr : w.frozen? ⟨v, 2, none⟩ = false := frozen_of_row w v 2 _ _ h.me
  have hs : w.setCell ⟨v, 2, none⟩ (.int .i64 0) = w := setCell_same h.me rfl
  clear h
  go_enter Tryz.func86, Tryz.ntmps86
  go_wp2
  go_ret
  exact ⟨rfl, rfl⟩

set_option maxHeartbeats 800000 in
theorem memGet_any {W : TL} (h : MapL SV w X m W) (hX : ∀ k, X k → k < w.heap.size) {A : Option Addr} {n k B : Nat} {l : List Int} (hr : RB w B A n l) (hn : n ≤ maxLen) :
    Calls Tryz.prog 370 #[.map (some m), .slice A n k] w fun e w' => ∃ u, e = .returned (.tuple #[u, .bool (lookT W (tx l)).isSome, .int .i64 0]) ∧ SV w' (fun k => k < w.heap.size) u ((lookT W (tx l)).getD []) ∧ Below w.heap.size w w' := by
  have hconv := hr.conv k
  have hlen := hr.len
  obtain ⟨u0, hlook, hnone, hsome⟩ := h.look Tryz.underlying118 zero_bytes (x := tx l) (by rw [tx_length, hlen]; exact hn)
  have hu : SV w X u0 ((lookT W (tx l)).getD []) := by
    cases hl : lookT W (tx l) with
    | none => rw [hnone hl]; exact SV.nil_ _ _ _
    | some d => exact hsome d hl
  have hlook' : (Instr.lookup 118 (.map (some m)) (.string (strOfNums l)) true).run Tryz.prog w = .ok (.tuple #[u0, .bool (lookT W (tx l)).isSome]) w := hlook w rfl
  obtain ⟨A', n', c', rfl, e1, e2, e3, e4⟩ := hu
  have HC := Lib.hid (SCloneN_any c' e3 (Nat.le_refl _) e2)
  generalize (lookT W (tx l)).isSome = bs at hlook' ⊢
  generalize (lookT W (tx l)).getD [] = d at HC e3 ⊢
  generalize strOfNums l = st at hconv hlook'
  clear hlook hnone hsome e3 e4 h hr hlen hX
  go_enter Tryz.func370, Tryz.ntmps370
  go_wp2_with fail
  refine HC.out.mono ?_
  rintro e w' ⟨u, rfl, hs, hb⟩
  go_wp2
  go_ret3
  exact ⟨u, rfl, hs, hb⟩

set_option maxHeartbeats 800000 in
theorem vLook_any (h : ViewAt w X v m c S) {A : Option Addr} {n k B : Nat} {l : List Int} (hr : RB w B A n l) (hB : B ≤ w.heap.size) (hn : n ≤ maxLen) :
    Calls Tryz.prog 137 #[.pointer (some ⟨v, 0, none⟩), .slice A n k] w fun e w' => ∃ u, e = .returned (.tuple #[u, .bool (S.now (tx l)).isSome, .int .i64 0]) ∧ SV w' (fun k => k < w.heap.size) u ((S.now (tx l)).getD []) ∧ Below w.heap.size w w' := by
  obtain ⟨c0, c1, c2, hv⟩ := h.cells
  have hlen := hr.len
  obtain ⟨u0, hlk, n1, s1⟩ := h.chg.look Tryz.underlying119 zero_change (x := tx l) (by rw [tx_length, hlen]; exact hn)
  have hmem := h.mem
  have B1 : Below w.heap.size w w.drew := (Below.refl _ w).drew
  have B2 : Below w.heap.size w (w.alloc (.cells #[.bool false, .slice none 0 0] 176)).drew := ((Below.refl _ w).alloc (Nat.le_refl _) _).drew
  have v1 := (hr.below (B1.mono hB)).conv k
  have v2 := (hr.below (B2.mono hB)).conv k
  have hm : ∀ n (w : World), (method (n + 1) 118 (.map (some m)) "Get").run Tryz.prog w = .ok (370, .map (some m)) w := fun n w => by kernel_rfl
  -- what stands in the changes
  have hch : ∃ (t : Bool) (A' : Option Addr) (n' c' : Nat), u0 = .agg #[.bool t, .slice A' n' c'] ∧ ((lookT S.C (tx l)).isSome = true → (S.now (tx l)).isSome = t ∧ n' ≤ c' ∧ n' ≤ 140737488355328 ∧ RB w w.heap.size A' n' ((S.now (tx l)).getD [])) := by
    cases hl : lookT S.C (tx l) with
    | none => exact ⟨_, _, _, _, n1 hl, fun h => by cases h⟩
    | some d =>
      have hd := s1 d hl
      have hnow : S.now (tx l) = d := by unfold VS.now; rw [hl]
      rw [hnow]
      cases d with
      | none => exact ⟨_, _, _, _, hd, fun _ => ⟨rfl, Nat.le_refl _, Nat.zero_le _, RB.nil_⟩⟩
      | some y =>
        obtain ⟨q, rfl, A', n', c', rfl, e1, e2, e3, _⟩ := hd
        exact ⟨_, _, _, _, rfl, fun _ => ⟨rfl, e1, e2, e3⟩⟩
  obtain ⟨t, A', n', c', rfl, hch⟩ := hch
  have k1 : (Instr.lookup 119 (.map (some c)) (.string (strOfNums l)) true).run Tryz.prog w.drew = .ok (.tuple #[.agg #[.bool t, .slice A' n' c'], .bool (lookT S.C (tx l)).isSome]) w.drew := hlk _ rfl
  have k2 : (Instr.lookup 119 (.map (some c)) (.string (strOfNums l)) true).run Tryz.prog (w.alloc (.cells #[.bool false, .slice none 0 0] 176)).drew = .ok (.tuple #[.agg #[.bool t, .slice A' n' c'], .bool (lookT S.C (tx l)).isSome]) (w.alloc (.cells #[.bool false, .slice none 0 0] 176)).drew := hlk _ (Below.heap_alloc _ _ _ h.chg.lt)
  clear hlk n1 s1
  generalize hst : strOfNums l = st at k1 k2 v1 v2
  cases hb0 : (lookT S.C (tx l)).isSome with
  | true =>
    rw [hb0] at k1 k2
    obtain ⟨g1, g2, g3, g4⟩ := hch hb0
    have hB4 : Below w.heap.size w (w.alloc (.cells #[.bool t, .slice A' n' c'] 176)).drew.drew := ((Below.refl _ w).alloc (Nat.le_refl _) _).drew.drew
    have HC := Lib.hid (SCloneN_any c' ((g4.below hB4).more hB4.size) (Nat.le_refl _) g3)
    have HB4 := Lib.hid hB4
    rw [g1]
    generalize (S.now (tx l)).getD [] = d at HC ⊢
    clear hch g4 g1 h hr hmem B1 B2 hb0 hB4 hst
    go_enter Tryz.func137, Tryz.ntmps137
    go_wp2_with fail
    go_region_with fail
    all_goals
      go_wp2_with fail
      clear k1 k2 v1 v2 hm c0 c1 c2
      have q0 : (w.alloc (.cells #[.bool t, .slice A' n' c'] 176)).drew.cell? ⟨w.heap.size, 0, none⟩ = some (.bool t) := by simp
      have q1 : (w.alloc (.cells #[.bool t, .slice A' n' c'] 176)).drew.cell? ⟨w.heap.size, 1, none⟩ = some (.slice A' n' c') := by simp
      have q2 : w.heap.size < (w.alloc (.cells #[.bool t, .slice A' n' c'] 176)).drew.heap.size := by simp
      have q2' : w.heap.size ≤ (w.alloc (.cells #[.bool t, .slice A' n' c'] 176)).drew.drew.heap.size := by simp
      generalize (w.alloc (.cells #[.bool t, .slice A' n' c'] 176)).drew = w1 at HC HB4 q0 q1 q2 q2' ⊢
      obtain ⟨bx, hbx⟩ : ∃ bx, bx = w.heap.size := ⟨_, rfl⟩
      have HX := Lib.hid hbx
      rw [← hbx] at q0 q1 q2 q2' HB4 ⊢
      clear hbx
      go_region_held3 (fun w' => w'.cell? ⟨bx, 0, none⟩ = some (.bool t) ∧ w'.cell? ⟨bx, 1, none⟩ = some (.slice A' n' c'))
        (first | with_reducible exact q3 | with_reducible exact ⟨q0, q1⟩ | exact ⟨q0, q1⟩)
        (first | (go_at_call 111; refine HC.out.mono ?_; rintro e w' ⟨u, rfl, hs, hb⟩; have q3 := And.intro ((hb.cell (p := ⟨bx, 0, none⟩) q2).trans q0) ((hb.cell (p := ⟨bx, 1, none⟩) q2).trans q1)))
      go_wp2_with fail
      go_ret3
      rw [HX.out] at q2'
      have hB5 := HB4.out
      rw [HX.out] at hB5
      exact ⟨u, rfl, hs.far (fun k hk => Nat.lt_of_lt_of_le hk q2'), hB5.trans (hb.mono q2')⟩
  | false =>
    rw [hb0] at k1 k2
    have hnow : S.now (tx l) = lookT S.W (tx l) := by
      unfold VS.now
      cases hl : lookT S.C (tx l) with
      | none => rfl
      | some d => rw [hl] at hb0; cases hb0
    rw [hnow]
    have hB4 : Below w.heap.size w (w.alloc (.cells #[.bool t, .slice A' n' c'] 176)).drew := ((Below.refl _ w).alloc (Nat.le_refl _) _).drew
    have h4 := h.below hB4
    have HC := Lib.hid (memGet_any h4.mem h4.lt (k := k) (hr.below (hB4.mono hB)) hn)
    have HT := Lib.hid h4
    have HB4 := Lib.hid hB4
    have c0' := h4.cells.1
    generalize (lookT S.W (tx l)).getD [] = d at HC ⊢
    generalize (lookT S.W (tx l)).isSome = bs at HC ⊢
    clear hch h hr hmem B1 B2 hb0 hB4 hst h4 hnow
    go_enter Tryz.func137, Tryz.ntmps137
    go_wp2_with fail
    go_region_with fail
    all_goals
      go_wp2_with fail
      refine HC.out.mono ?_
      rintro e w2 ⟨u, rfl, hs, hb⟩
      have HM := Lib.hid (vMeet_any (HT.out.below hb))
      have HS := Lib.hid hs
      have HB := Lib.hid hb
      clear hs hb
      go_wp2_with fail
      refine HM.out.mono ?_
      rintro e w3 ⟨rfl, rfl⟩
      go_wp2_with fail
      go_ret3
      exact ⟨u, rfl, HS.out.far (fun k hk => Nat.lt_of_lt_of_le hk HB4.out.size), HB4.out.trans (HB.out.mono HB4.out.size)⟩
end

end Go.Proofs.YtlcbmobdokicaaaGreat

/-
  Contracts of the view's Get, Abort, Put, Delete, New over memory. Conditions: texts and values of at most 2^47 bytes, fewer than 2^47 changes.
-/
namespace Go.Proofs.YtlcbmobdokicaaaGreat
open Go.RowKit Go.Maps
set_option maxRecDepth 100000
set_option linter.unusedVariables false

section
variable {w w' : World} {X : Nat → Prop} {v m c : Nat} {S : VS}
set_option maxHeartbeats 800000 in
theorem vGet_any (h : ViewAt w X v m c S) {A : Option Addr} {n k B : Nat} {l : List Int} (hr : RB w B A n l) (hB : B ≤ w.heap.size) (hn : n ≤ maxLen) :
    Calls Tryz.prog 93 #[.pointer (some ⟨v, 0, none⟩), .slice A n k] w fun e w' => ∃ u, e = .returned (.tuple #[u, .bool (S.now (tx l)).isSome]) ∧ SV w' (fun k => k < w.heap.size) u ((S.now (tx l)).getD []) ∧ Below w.heap.size w w' := by
  have HE := Lib.hid (vErr_any h)
  have HL := Lib.hid (vLook_any h (k := k) hr hB hn)
  generalize (S.now (tx l)).getD [] = d at HL ⊢
  generalize (S.now (tx l)).isSome = bs at HL ⊢
  clear h hr
  go_enter Tryz.func93, Tryz.ntmps93
  go_wp2_with fail
  refine HE.out.mono ?_
  rintro e w' ⟨rfl, rfl⟩
  go_wp2_with fail
  refine HL.out.mono ?_
  rintro e w' ⟨u, rfl, hs, hb⟩
  go_wp2_with fail
  go_ret2
  exact ⟨u, rfl, hs, hb⟩
set_option maxHeartbeats 800000 in
theorem vAbort_any (h : ViewAt w X v m c S) : Calls Tryz.prog 48 #[.pointer (some ⟨v, 0, none⟩)] w fun e w' => e = .returned (.tuple #[]) ∧ ViewAt w' X v m c S.abort ∧ Touch (fun k => k = c) w w' := by
  obtain ⟨c0, c1, c2, hv⟩ := h.cells
  have HM := Lib.hid (vMade_any h)
  obtain ⟨w1, hrun, hm1, hg1⟩ := h.chg.clear_ Tryz.underlying119 0
  have h1 : ViewAt w1 X v m c S.abort := h.turnC hg1 hm1 List.Pairwise.nil
  have HT := Lib.hid (And.intro h1 ((Touch.refl (fun k => k = c) w).grown hg1 rfl))
  have fr : w1.frozen? ⟨v, 2, none⟩ = false := frozen_of_row w1 v 2 _ _ h1.me
  have hs : w1.setCell ⟨v, 2, none⟩ (.int .i64 0) = w1 := setCell_same h1.me rfl
  have d2 := h1.cells.2.2.1
  clear h h1 hm1 hg1
  go_enter Tryz.func48, Tryz.ntmps48
  go_wp2_with fail
  refine HM.out.mono ?_
  rintro e w' ⟨rfl, rfl⟩
  go_wp2_with fail
  go_end0
  exact ⟨rfl, HT.out⟩
set_option maxHeartbeats 800000 in
theorem vAbort_nil (w : World) : Calls Tryz.prog 48 #[.pointer none] w fun e w' => e = .returned (.tuple #[]) ∧ w = w' := by
  go_enter Tryz.func48, Tryz.ntmps48
  go_wp2_with fail
  refine (vMade_nil _).mono ?_
  rintro e w' ⟨rfl, rfl⟩
  go_wp2_with fail
  go_end0
  exact ⟨rfl, rfl⟩

/-- Put. -/
def putE (key val : List Int) : Int := if key.length < 1 ∨ key.length > 32 ∨ val.length > 120 then 1 else 0
def VS.putR (S : VS) (key val : List Int) : VS := if putE key val = 0 then S.put (tx key) val else S

set_option maxHeartbeats 1600000 in
theorem vPut_any (h : ViewAt w X v m c S) {A A' : Option Addr} {n k B n' k' B' : Nat} {l l' : List Int} (hr : RB w B A n l) (hB : B ≤ w.heap.size) (hn : n ≤ maxLen) (hr' : RB w B' A' n' l') (hB' : B' ≤ w.heap.size) (hn' : n' ≤ maxLen) (hC : S.C.length < maxLen) :
    Calls Tryz.prog 71 #[.pointer (some ⟨v, 0, none⟩), .slice A n k, .slice A' n' k'] w fun e w' => e = .returned (.int .i64 (putE l l')) ∧ ViewAt w' X v m c (S.putR l l') ∧ Touch (fun k => k = c) w w' := by
  obtain ⟨c0, c1, c2, hv⟩ := h.cells
  have hlen := hr.len
  have hlen' := hr'.len
  have HM := Lib.hid (vMade_any h)
  have HSAME := Lib.hid (show ViewAt w X v m c S ∧ Touch (fun k => k = c) w w from ⟨h, Touch.refl _ _⟩)
  by_cases b1 : n < 1
  · have e1 : putE l l' = 1 := by unfold putE; rw [hlen]; exact if_pos (.inl b1)
    have e2 : S.putR l l' = S := by unfold VS.putR; rw [e1]; rfl
    have t1 : decide ((n : Int) < 1) = true := by simp; omega
    rw [e1, e2]
    clear e1 e2 h hr hr'
    go_enter Tryz.func71, Tryz.ntmps71
    go_wp2_with fail
    refine HM.out.mono ?_
    rintro e w' ⟨rfl, rfl⟩
    go_wp2_with fail
    go_ret
    exact ⟨rfl, HSAME.out⟩
  have t1 : decide ((n : Int) < 1) = false := by simp; omega
  by_cases b2 : n > 32
  · have e1 : putE l l' = 1 := by unfold putE; rw [hlen]; exact if_pos (.inr (.inl b2))
    have e2 : S.putR l l' = S := by unfold VS.putR; rw [e1]; rfl
    have t2 : decide ((32 : Int) < n) = true := by simp; omega
    rw [e1, e2]
    clear e1 e2 h hr hr'
    go_enter Tryz.func71, Tryz.ntmps71
    go_wp2_with fail
    refine HM.out.mono ?_
    rintro e w' ⟨rfl, rfl⟩
    go_wp2_with fail
    go_ret
    exact ⟨rfl, HSAME.out⟩
  have t2 : decide ((32 : Int) < n) = false := by simp; omega
  by_cases b3 : n' > 120
  · have e1 : putE l l' = 1 := by unfold putE; rw [hlen']; exact if_pos (.inr (.inr b3))
    have e2 : S.putR l l' = S := by unfold VS.putR; rw [e1]; rfl
    have t3 : decide ((120 : Int) < n') = true := by simp; omega
    rw [e1, e2]
    clear e1 e2 h hr hr'
    go_enter Tryz.func71, Tryz.ntmps71
    go_wp2_with fail
    refine HM.out.mono ?_
    rintro e w' ⟨rfl, rfl⟩
    go_wp2_with fail
    go_ret
    exact ⟨rfl, HSAME.out⟩
  have t3 : decide ((120 : Int) < n') = false := by simp; omega
  have e1 : putE l l' = 0 := by unfold putE; rw [hlen, hlen']; exact if_neg (by rintro (a | a | a) <;> omega)
  have e2 : S.putR l l' = S.put (tx l) l' := by unfold VS.putR; rw [e1]; rfl
  rw [e1, e2]
  have B1 : Below w.heap.size w w.drew := (Below.refl _ w).drew
  have v1 := (hr.below (B1.mono hB)).conv k
  have HC := Lib.hid (SCloneN_any (w := w.drew) k' (hr'.below (B1.mono hB')) hB' (by omega))
  -- behind the clone: the store
  have HS := Lib.hid (show ∀ w2 u, Below w.drew.heap.size w.drew w2 → SV w2 (fun k => k < w.drew.heap.size) u l' → (convert 109 9 (.slice A n k)).run Tryz.prog w2 = .ok (.string (strOfNums l)) w2 ∧ w2.cell? ⟨v, 1, none⟩ = some (.map (some c)) ∧
      ∃ w3, (Instr.mapUpdate 119 (.map (some c)) (.string (strOfNums l)) (.agg #[.bool true, u])).run Tryz.prog w2 = .ok () w3 ∧ (convert 109 9 (.slice A n k)).run Tryz.prog w3 = .ok (.string (strOfNums l)) w3 ∧ w3.cell? ⟨v, 1, none⟩ = some (.map (some c)) ∧ ViewAt w3 X v m c (S.put (tx l) l') ∧ Touch (fun k => k = c) w w3 from by
    intro w2 u hb2 hs2
    have h2 := h.below (B1.trans hb2)
    obtain ⟨w3, hrun, hm3, hg3⟩ := h2.chg.store (R := chVal) @ch_kept h2.ok.c h2.xc Tryz.underlying119 hC (x := tx l) (by rw [tx_length, hlen]; exact hn) (u := .agg #[.bool true, u]) (c := some l') (show chVal w2 X _ (some l') from ⟨u, rfl, hs2.far (fun k hk => h.lt k hk)⟩)
    have h3 : ViewAt w3 X v m c (S.put (tx l) l') := h2.turnC hg3 hm3 (h2.ok.c.set _ _)
    have hcc := h2.cellsKept h3 ((Touch.refl (fun k => k = m ∨ k = c) w2).grown hg3 (.inr rfl))
    have hr2 := hr.below ((B1.trans hb2).mono hB)
    refine ⟨hr2.conv k, h2.cells.2.1, w3, hrun, (hr2.keep fun b o hb => hcc b o (by have := hb2.size; have : w.heap.size ≤ w2.heap.size := this; omega)).conv k, h3.cells.2.1, h3, (Touch.of_below (B1.trans hb2)).grown hg3 rfl⟩)
  clear h hr hr' e1 e2
  generalize strOfNums l = st at HS v1
  go_enter Tryz.func71, Tryz.ntmps71
  go_wp2_with fail
  refine HM.out.mono ?_
  rintro e w' ⟨rfl, rfl⟩
  go_wp2_with fail
  go_region_held3 (fun w' => w'.cell? ⟨v, 1, none⟩ = some (.map (some c)) ∧ (convert 109 9 (.slice A n k)).run Tryz.prog w' = .ok (.string st) w')
    (first | with_reducible exact q3 | with_reducible exact q2 | exact ⟨c1, v1⟩)
    (first | (go_at_call 111; refine HC.out.mono ?_; rintro e w2 ⟨u, rfl, hs, hb⟩; obtain ⟨p1, p2, w3, p3, p4, p5, p6⟩ := HS.out w2 u hb hs; obtain ⟨A2, n2, k2, rfl, _⟩ := hs; have q2 := And.intro p2 p1; have q3 := And.intro p5 p4))
  all_goals
    go_wp2_with fail
    go_ret
    exact ⟨rfl, p6⟩

set_option maxHeartbeats 800000 in
theorem vNew_any (w : World) (X : Nat → Prop) (hX : ∀ k, X k → k < w.heap.size) : Calls Tryz.prog 31 #[.pointer none] w fun e w' => ∃ v m c, e = .returned (.pointer (some ⟨v, 0, none⟩)) ∧ ViewAt w' (fun k => X k ∨ k = v ∨ k = m ∨ k = c) v m c ⟨[], []⟩ ∧ Below w.heap.size w w' ∧ w.heap.size ≤ v ∧ w.heap.size ≤ m ∧ w.heap.size ≤ c := by
  have hmk := @run_makeMap Tryz.prog
  have s0 : ∀ o : Obj, (w.alloc o).heap.size = w.heap.size + 1 := fun o => by simp
  have hM : MapL SV (w.alloc (.map #[] 0)) X w.heap.size [] := MapL.made w X
  have hb1 : Below w.heap.size w (w.alloc (.map #[] 0)) := (Below.refl _ w).alloc (Nat.le_refl _) _
  have HFIN := Lib.hid (show ∃ v m c : Nat, (Value.pointer (some ⟨w.heap.size + 1 + 1, 0, none⟩)) = .pointer (some ⟨v, 0, none⟩) ∧ ViewAt (((w.alloc (.map #[] 0)).alloc (.map #[] 0)).alloc (.cells #[.iface 118 (.map (some w.heap.size)), .map (some (w.heap.size + 1)), .int .i64 0] 123 (0, 0))) (fun k => X k ∨ k = v ∨ k = m ∨ k = c) v m c ⟨[], []⟩ ∧ Below w.heap.size w (((w.alloc (.map #[] 0)).alloc (.map #[] 0)).alloc (.cells #[.iface 118 (.map (some w.heap.size)), .map (some (w.heap.size + 1)), .int .i64 0] 123 (0, 0))) ∧ w.heap.size ≤ v ∧ w.heap.size ≤ m ∧ w.heap.size ≤ c from by
    refine ⟨_, w.heap.size, w.heap.size + 1, rfl, ?_, ?_, by omega, Nat.le_refl _, by omega⟩
    · have z2 : ((w.alloc (.map #[] 0)).alloc (.map #[] 0)).heap.size = w.heap.size + 1 + 1 := by simp
      have z3 : (((w.alloc (.map #[] 0)).alloc (.map #[] 0)).alloc (.cells #[.iface 118 (.map (some w.heap.size)), .map (some (w.heap.size + 1)), .int .i64 0] 123 (0, 0))).heap.size = w.heap.size + 1 + 1 + 1 := by simp
      have hC : MapL chVal ((w.alloc (.map #[] 0)).alloc (.map #[] 0)) X (w.heap.size + 1) [] := by
        have := MapL.made (R := chVal) (w.alloc (.map #[] 0)) X
        rwa [s0] at this
      have g1 : (((w.alloc (.map #[] 0)).alloc (.map #[] 0)).alloc (.cells #[.iface 118 (.map (some w.heap.size)), .map (some (w.heap.size + 1)), .int .i64 0] 123 (0, 0))).heap[w.heap.size]? = (w.alloc (.map #[] 0)).heap[w.heap.size]? := by
        rw [Below.heap_alloc _ _ _ (by simp; omega), Below.heap_alloc _ _ _ (by simp)]
      have g2 : (((w.alloc (.map #[] 0)).alloc (.map #[] 0)).alloc (.cells #[.iface 118 (.map (some w.heap.size)), .map (some (w.heap.size + 1)), .int .i64 0] 123 (0, 0))).heap[w.heap.size + 1]? = ((w.alloc (.map #[] 0)).alloc (.map #[] 0)).heap[w.heap.size + 1]? := Below.heap_alloc _ _ _ (by simp)
      refine ⟨by rw [← z2]; exact heap_alloc_new _ _, ?_, ?_, by omega, .inr (.inl rfl), .inr (.inr (.inl rfl)), .inr (.inr (.inr rfl)), ⟨List.Pairwise.nil, List.Pairwise.nil⟩, ?_⟩
      · obtain ⟨f, h1, h2⟩ := hM
        exact ⟨_, h1.of_block g1, fun x => ⟨(h2 x).1, fun c hc => by cases hc⟩⟩
      · obtain ⟨f, h1, h2⟩ := hC
        exact ⟨_, h1.of_block g2, fun x => ⟨(h2 x).1, fun c hc => by cases hc⟩⟩
      · intro k hk
        rw [z3]
        rcases hk with a | a | a | a
        · have := hX k a; omega
        · omega
        · omega
        · omega
    · exact (hb1.alloc hb1.size _).alloc (by simp; omega) _)
  clear hM hb1 s0 hX
  go_enter Tryz.func31, Tryz.ntmps31
  go_wp2_with fail
  go_ret
  obtain ⟨v, m, c, e, h⟩ := HFIN.out
  exact ⟨v, m, c, by exact congrArg Ending.returned e, h⟩
end

end Go.Proofs.YtlcbmobdokicaaaGreat
