/-
  A view over memory as it lies in memory: its three cells, the map that its store is, and the map of its changes; what keeps it; how it is looked up and stored into. Conditions: texts and values of at most 2^47 bytes.
-/
import Derived.Test.YtihjlhegcoceoaaGreatSMap
import Derived.Test.YtihjlhegcoceoaaGreatViewP
import Derived.Test.YtihjlhegcoceoaaGreatDiskP
import Derived.Test.YtihjlhegcoceoaaGreatSClone
import Derived.Test.YtihjlhegcoceoaaGreatEqual
namespace Go.Proofs.YtihjlhegcoceoaaGreat
open Go.RowKit Go.Maps
set_option maxRecDepth 100000
set_option linter.unusedVariables false

theorem Touch.trans {F : Nat → Prop} {w w1 w2 : World} (h : Touch F w w1) (g : Touch F w1 w2) : Touch F w w2 :=
  ⟨g.os.trans h.os, g.tape.trans h.tape, g.output.trans h.output, Nat.le_trans h.size g.size, fun k hk hn => (g.block k (Nat.lt_of_lt_of_le hk h.size) hn).trans (h.block k hk hn)⟩
theorem Touch.mono {F G : Nat → Prop} {w w' : World} (h : Touch F w w') (hG : ∀ k, F k → G k) : Touch G w w' := ⟨h.os, h.tape, h.output, h.size, fun k hk hn => h.block k hk fun hf => hn (hG k hf)⟩
theorem Touch.grown {F : Nat → Prop} {w w1 w2 : World} {b : Nat} (h : Touch F w w1) (hg : w1.grownBy w2 (some b)) (hb : F b) : Touch F w w2 :=
  ⟨hg.os.trans h.os, hg.tape.trans h.tape, hg.output.trans h.output, Nat.le_trans h.size hg.size, fun k hk hn => (hg.block k (Nat.lt_of_lt_of_le hk h.size) (fun e => hn (by injection e with e; rw [e]; exact hb))).trans (h.block k hk hn)⟩

/-- A slice that reads as the bytes l, apart from the blocks X. -/
def SV (w : World) (X : Nat → Prop) (v : Value) (l : List Int) : Prop :=
  ∃ (A : Option Addr) (n c : Nat), v = .slice A n c ∧ n ≤ c ∧ n ≤ 140737488355328 ∧ RB w w.heap.size A n l ∧ ∀ a, A = some a → 0 < n → ¬ X a.block
theorem SV.keep {w w' : World} {X X' : Nat → Prop} {v : Value} {l : List Int} (h : SV w X v l) (hs : w.heap.size ≤ w'.heap.size) (hX : ∀ k, k < w.heap.size → ¬ X k → ¬ X' k) (hk : ∀ k, k < w.heap.size → ¬ X k → w'.heap[k]? = w.heap[k]?) : SV w' X' v l := by
  obtain ⟨A, n, c, rfl, h1, h2, h3, h4⟩ := h
  refine ⟨A, n, c, rfl, h1, h2, ⟨h3.1, h3.2.1, fun hn => ?_⟩, fun a ha hn => ?_⟩
  · obtain ⟨bb, o, e, hbb, hc⟩ := h3.2.2 hn
    exact ⟨bb, o, e, Nat.lt_of_lt_of_le hbb hs, fun j hj => (World.cell?_of_block (a := ⟨bb, o + j, none⟩) (hk bb hbb (h4 _ e hn))).trans (hc j hj)⟩
  · obtain ⟨bb, o, e, hbb, _⟩ := h3.2.2 hn
    rw [ha] at e
    cases e
    exact hX _ hbb (h4 _ ha hn)

/-- What a map of changes holds for a change. -/
def chVal (w : World) (X : Nat → Prop) (u : Value) : Option (List Int) → Prop
  | none => u = .agg #[.bool false, .slice none 0 0]
  | some l => ∃ v, u = .agg #[.bool true, v] ∧ SV w X v l
theorem chVal.keep {w w' : World} {X X' : Nat → Prop} {u : Value} {c : Option (List Int)} (h : chVal w X u c) (hs : w.heap.size ≤ w'.heap.size) (hX : ∀ k, k < w.heap.size → ¬ X k → ¬ X' k) (hk : ∀ k, k < w.heap.size → ¬ X k → w'.heap[k]? = w.heap[k]?) : chVal w' X' u c := by
  cases c with
  | none => exact h
  | some l =>
    obtain ⟨v, e, h1⟩ := h
    exact ⟨v, e, h1.keep hs hX hk⟩

/-- The map at block b holds the list L, each element as R says. -/
def MapL {β : Type} (R : World → (Nat → Prop) → Value → β → Prop) (w : World) (X : Nat → Prop) (b : Nat) (L : List (Txt × β)) : Prop :=
  ∃ f, SMap w b L.length f ∧ ∀ x, (lookT L x = none → f x = none) ∧ ∀ c, lookT L x = some c → ∃ u, f x = some u ∧ R w X u c
/-- What R says stands while blocks that are not X's do. -/
def Kept {β : Type} (R : World → (Nat → Prop) → Value → β → Prop) : Prop := ∀ {w w' : World} {X X' : Nat → Prop} {u : Value} {c : β}, R w X u c → w.heap.size ≤ w'.heap.size → (∀ k, k < w.heap.size → ¬ X k → ¬ X' k) → (∀ k, k < w.heap.size → ¬ X k → w'.heap[k]? = w.heap[k]?) → R w' X' u c
theorem sv_kept : Kept SV := fun h hs hX hk => h.keep hs hX hk
theorem ch_kept : Kept chVal := fun h hs hX hk => h.keep hs hX hk

section
variable {β : Type} {R : World → (Nat → Prop) → Value → β → Prop} {w w' : World} {X X' : Nat → Prop} {b : Nat} {L : List (Txt × β)}
theorem MapL.keep (HK : Kept R) (h : MapL R w X b L) (hs : w.heap.size ≤ w'.heap.size) (hX : ∀ k, k < w.heap.size → ¬ X k → ¬ X' k) (hk : ∀ k, k < w.heap.size → ¬ X k → w'.heap[k]? = w.heap[k]?) (hb : w'.heap[b]? = w.heap[b]?) : MapL R w' X' b L := by
  obtain ⟨f, h1, h2⟩ := h
  refine ⟨f, h1.of_block hb, fun x => ⟨(h2 x).1, fun c hc => ?_⟩⟩
  obtain ⟨u, e, hu⟩ := (h2 x).2 c hc
  exact ⟨u, e, HK hu hs hX hk⟩
theorem MapL.made (w : World) (X : Nat → Prop) : MapL R (w.alloc (.map #[] 0)) X w.heap.size [] := ⟨_, SMap.made w, fun x => ⟨fun _ => rfl, fun c h => by cases h⟩⟩
theorem MapL.lt (h : MapL R w X b L) : b < w.heap.size := by
  obtain ⟨f, h1, _⟩ := h
  exact h1.lt
theorem SMap.few {n : Nat} {f : Txt → Option Value} (h : SMap w b n f) (hf : ∀ x, lookT L x = none → f x = none) : SMap w b L.length f := by
  have := h.tight (L.map (·.1)) fun i hi => by
    cases hl : lookT L i with
    | none => exact absurd (hf i hl) hi
    | some c => exact List.mem_map.2 ⟨_, lookT_mem hl, rfl⟩
  simpa using this
/-- An element is stored: it is as R says, in what the map's store leaves. -/
theorem MapL.store (HK : Kept R) (h : MapL R w X b L) (hup : RiseT L) (hXb : X b) {t e : TypeId} (ht : Tryz.prog.underlying t = some (.map 9 e)) (hn : L.length < maxLen) {x : Txt} (hx : x.length ≤ maxLen) {u : Value} {c : β} (hu : R w X u c) :
    ∃ w', (Instr.mapUpdate t (.map (some b)) (encStr x) u).run Tryz.prog w = .ok () w' ∧ MapL R w' X b (setT L x c) ∧ w.grownBy w' (some b) := by
  obtain ⟨f, h1, h2⟩ := h
  obtain ⟨w', hrun, h3, hg⟩ := h1.store ht hn hx u
  have hk : ∀ k, k < w.heap.size → ¬ X k → w'.heap[k]? = w.heap[k]? := fun k hk hn => hg.block k hk fun e => hn (by injection e with e; rw [e]; exact hXb)
  have hf : ∀ y, lookT (setT L x c) y = none → (if y = x then some u else f y) = none := by
    intro y hy
    rw [lookT_setT hup] at hy
    by_cases e : x = y
    · rw [if_pos e] at hy; cases hy
    · rw [if_neg e] at hy
      rw [if_neg (fun e' => e e'.symm)]
      exact (h2 y).1 hy
  refine ⟨w', hrun, ⟨_, h3.few hf, fun y => ⟨hf y, fun d hd => ?_⟩⟩, hg⟩
  rw [lookT_setT hup] at hd
  by_cases e : x = y
  · rw [if_pos e] at hd
    cases hd
    exact ⟨u, by rw [if_pos e.symm], HK hu hg.size (fun _ _ h => h) hk⟩
  · rw [if_neg e] at hd
    obtain ⟨u', e1, hu'⟩ := (h2 y).2 d hd
    exact ⟨u', by rw [if_neg (fun e' => e e'.symm)]; exact e1, HK hu' hg.size (fun _ _ h => h) hk⟩
theorem MapL.delete (HK : Kept R) (h : MapL R w X b L) (hXb : X b) {t e : TypeId} (ht : Tryz.prog.underlying t = some (.map 9 e)) {x : Txt} (hx : x.length ≤ maxLen) (ty : TypeId) :
    ∃ w', (Builtin.delete_ #[t, 9] ty #[.map (some b), encStr x]).run Tryz.prog w = .ok (.tuple #[]) w' ∧ MapL R w' X b (delT L x) ∧ w.grownBy w' (some b) := by
  obtain ⟨f, h1, h2⟩ := h
  obtain ⟨w', hrun, h3, hg⟩ := h1.delete ht hx ty
  have hk : ∀ k, k < w.heap.size → ¬ X k → w'.heap[k]? = w.heap[k]? := fun k hk hn => hg.block k hk fun e => hn (by injection e with e; rw [e]; exact hXb)
  have hf : ∀ y, lookT (delT L x) y = none → (if y = x then none else f y) = none := by
    intro y hy
    rw [lookT_delT] at hy
    by_cases e : y = x
    · rw [if_pos e]
    · rw [if_neg e]
      rw [if_neg (fun e' => e e'.symm)] at hy
      exact (h2 y).1 hy
  refine ⟨w', hrun, ⟨_, h3.few hf, fun y => ⟨hf y, fun d hd => ?_⟩⟩, hg⟩
  rw [lookT_delT] at hd
  by_cases e : x = y
  · rw [if_pos e] at hd; cases hd
  · rw [if_neg e] at hd
    obtain ⟨u', e1, hu'⟩ := (h2 y).2 d hd
    exact ⟨u', by rw [if_neg (fun e' => e e'.symm)]; exact e1, HK hu' hg.size (fun _ _ h => h) hk⟩
theorem MapL.clear_ (h : MapL R w X b L) {t e : TypeId} (ht : Tryz.prog.underlying t = some (.map 9 e)) (ty : TypeId) :
    ∃ w', (Builtin.clear_ #[t] ty #[.map (some b)]).run Tryz.prog w = .ok (.tuple #[]) w' ∧ MapL R w' X b [] ∧ w.grownBy w' (some b) := by
  obtain ⟨f, h1, h2⟩ := h
  obtain ⟨w', hrun, h3, hg⟩ := h1.clear_ ht ty
  exact ⟨w', hrun, ⟨_, h3, fun y => ⟨fun _ => rfl, fun d hd => by cases hd⟩⟩, hg⟩
/-- A look-up, comma ok, in each world in which the map's block stands. -/
theorem MapL.look (h : MapL R w X b L) {t e : TypeId} (ht : Tryz.prog.underlying t = some (.map 9 e)) {z : Value} (hz : ∀ w, (zeroValue e).run Tryz.prog w = .ok z w) {x : Txt} (hx : x.length ≤ maxLen) :
    ∃ u, (∀ W, W.heap[b]? = w.heap[b]? → (Instr.lookup t (.map (some b)) (encStr x) true).run Tryz.prog W = .ok (.tuple #[u, .bool (lookT L x).isSome]) W) ∧ (lookT L x = none → u = z) ∧ ∀ c, lookT L x = some c → R w X u c := by
  obtain ⟨f, h1, h2⟩ := h
  have hr := fun W (e : W.heap[b]? = w.heap[b]?) => (h1.of_block e).look ht (hz W) hx
  cases hl : lookT L x with
  | none =>
    rw [(h2 x).1 hl] at hr
    exact ⟨z, hr, fun _ => rfl, fun c hc => by cases hc⟩
  | some c =>
    obtain ⟨u, e, hu⟩ := (h2 x).2 c hl
    rw [e] at hr
    exact ⟨u, hr, (fun h => by cases h), fun c' hc => by cases hc; exact hu⟩
theorem MapL.get (h : MapL R w X b L) {t e : TypeId} (ht : Tryz.prog.underlying t = some (.map 9 e)) {z : Value} (hz : (zeroValue e).run Tryz.prog w = .ok z w) {x : Txt} (hx : x.length ≤ maxLen) {c : β} (hl : lookT L x = some c) :
    ∃ u, (Instr.lookup t (.map (some b)) (encStr x) false).run Tryz.prog w = .ok u w ∧ R w X u c := by
  obtain ⟨f, h1, h2⟩ := h
  obtain ⟨u, e, hu⟩ := (h2 x).2 c hl
  exact ⟨u, h1.get ht hz hx e, hu⟩
end

/-- A view at block v over memory: its store's map at block m, its changes' map at block c; all that it leans on but these stands apart from the blocks X. -/
structure ViewAt (w : World) (X : Nat → Prop) (v m c : Nat) (S : VS) : Prop where
  me : w.heap[v]? = some (.cells #[.iface 42 (.map (some m)), .map (some c), .int .i64 0] 47 (0, 0))
  mem : MapL SV w X m S.W
  chg : MapL chVal w X c S.C
  mc : m ≠ c
  xv : X v
  xm : X m
  xc : X c
  ok : S.Ok
  lt : ∀ k, X k → k < w.heap.size

section
variable {w w' : World} {X X' : Nat → Prop} {v m c : Nat} {S : VS}
theorem ViewAt.cells (h : ViewAt w X v m c S) : w.cell? ⟨v, 0, none⟩ = some (.iface 42 (.map (some m))) ∧ w.cell? ⟨v, 1, none⟩ = some (.map (some c)) ∧ w.cell? ⟨v, 2, none⟩ = some (.int .i64 0) ∧ v < w.heap.size := by
  refine ⟨?_, ?_, ?_, (Array.getElem?_eq_some_iff.1 h.me).1⟩
  · rw [cell_of_row w v 0 _ _ (0, 0) h.me]; rfl
  · rw [cell_of_row w v 1 _ _ (0, 0) h.me]; rfl
  · rw [cell_of_row w v 2 _ _ (0, 0) h.me]; rfl
theorem ViewAt.vm (h : ViewAt w X v m c S) : v ≠ m ∧ v ≠ c := by
  obtain ⟨f, h1, _⟩ := h.mem
  obtain ⟨g, h2, _⟩ := h.chg
  obtain ⟨es, k, e⟩ := h1.block
  obtain ⟨es', k', e'⟩ := h2.block
  have := h.me
  refine ⟨fun q => ?_, fun q => ?_⟩
  · rw [q, e] at this; cases this
  · rw [q, e'] at this; cases this
/-- Its three blocks, and all that are not X's, stand. -/
theorem ViewAt.keep (h : ViewAt w X v m c S) (hs : w.heap.size ≤ w'.heap.size) (hX : ∀ k, k < w.heap.size → ¬ X k → ¬ X' k) (hx : ∀ k, X k → X' k) (hlt : ∀ k, X' k → k < w'.heap.size) (hk : ∀ k, k < w.heap.size → (k = v ∨ k = m ∨ k = c ∨ ¬ X k) → w'.heap[k]? = w.heap[k]?) : ViewAt w' X' v m c S :=
  ⟨(hk v h.cells.2.2.2 (.inl rfl)).trans h.me, h.mem.keep sv_kept hs hX (fun k h1 h2 => hk k h1 (.inr (.inr (.inr h2)))) (hk m h.mem.lt (.inr (.inl rfl))), h.chg.keep ch_kept hs hX (fun k h1 h2 => hk k h1 (.inr (.inr (.inr h2)))) (hk c h.chg.lt (.inr (.inr (.inl rfl)))), h.mc, hx v h.xv, hx m h.xm, hx c h.xc, h.ok, hlt⟩
theorem ViewAt.below (h : ViewAt w X v m c S) (hb : Below w.heap.size w w') : ViewAt w' X v m c S :=
  h.keep hb.size (fun _ _ h => h) (fun _ h => h) (fun k hk => Nat.lt_of_lt_of_le (h.lt k hk) hb.size) (fun k hk _ => hb.block k hk)
theorem ViewAt.drew (h : ViewAt w X v m c S) : ViewAt w.drew X v m c S := h.below (Below.refl _ w).drew
theorem ViewAt.alloc (h : ViewAt w X v m c S) (o : Obj) : ViewAt (w.alloc o) X v m c S := h.below ((Below.refl _ w).alloc (Nat.le_refl _) o)
/-- The changes' map alone was written. -/
theorem ViewAt.turnC (h : ViewAt w X v m c S) {C' : List (Txt × Option (List Int))} (hg : w.grownBy w' (some c)) (hm : MapL chVal w' X c C') (hup : RiseT C') : ViewAt w' X v m c ⟨S.W, C'⟩ := by
  have hk : ∀ k, k < w.heap.size → k ≠ c → w'.heap[k]? = w.heap[k]? := fun k hk hn => hg.block k hk fun e => hn (by injection e)
  exact ⟨(hk v h.cells.2.2.2 h.vm.2).trans h.me, h.mem.keep sv_kept hg.size (fun _ _ h => h) (fun k h1 h2 => hk k h1 fun e => h2 (by rw [e]; exact h.xc)) (hk m h.mem.lt h.mc), hm, h.mc, h.xv, h.xm, h.xc, ⟨h.ok.w, hup⟩, fun k hk => Nat.lt_of_lt_of_le (h.lt k hk) hg.size⟩
/-- The store's map alone was written. -/
theorem ViewAt.turnM (h : ViewAt w X v m c S) {W' : TL} (hg : w.grownBy w' (some m)) (hm : MapL SV w' X m W') (hup : RiseT W') : ViewAt w' X v m c ⟨W', S.C⟩ := by
  have hk : ∀ k, k < w.heap.size → k ≠ m → w'.heap[k]? = w.heap[k]? := fun k hk hn => hg.block k hk fun e => hn (by injection e)
  exact ⟨(hk v h.cells.2.2.2 h.vm.1).trans h.me, hm, h.chg.keep ch_kept hg.size (fun _ _ h => h) (fun k h1 h2 => hk k h1 fun e => h2 (by rw [e]; exact h.xm)) (hk c h.chg.lt (fun e => h.mc e.symm)), h.mc, h.xv, h.xm, h.xc, ⟨hup, h.ok.c⟩, fun k hk => Nat.lt_of_lt_of_le (h.lt k hk) hg.size⟩
end

theorem cell_of_map {w : World} {b k : Nat} {es : Array MapEntry} (h : w.heap[b]? = some (.map es k)) (o : Nat) : w.cell? ⟨b, o, none⟩ = none := by simp [World.cell?, h]
theorem MapL.noCell {β : Type} {R : World → (Nat → Prop) → Value → β → Prop} {w : World} {X : Nat → Prop} {b : Nat} {L : List (Txt × β)} (h : MapL R w X b L) (o : Nat) : w.cell? ⟨b, o, none⟩ = none := by
  obtain ⟨f, h1, _⟩ := h
  obtain ⟨es, k, e⟩ := h1.block
  exact cell_of_map e o
/-- What a view's call leaves of all cells that were there: they stand. -/
theorem ViewAt.cellsKept {w w' : World} {X X' : Nat → Prop} {v m c : Nat} {S S' : VS} (h : ViewAt w X v m c S) (h' : ViewAt w' X' v m c S') (ht : Touch (fun k => k = m ∨ k = c) w w') : ∀ b o, b < w.heap.size → w'.cell? ⟨b, o, none⟩ = w.cell? ⟨b, o, none⟩ := by
  intro b o hb
  by_cases e1 : b = m
  · rw [e1, h.mem.noCell, h'.mem.noCell]
  · by_cases e2 : b = c
    · rw [e2, h.chg.noCell, h'.chg.noCell]
    · exact World.cell?_of_block (a := ⟨b, o, none⟩) (ht.block b hb (by rintro (a | a); exact e1 a; exact e2 a))

/-- A cell written with what it holds. -/
theorem setCell_same {w : World} {b o : Nat} {cs : Array Value} {T : TypeId} (h : w.heap[b]? = some (.cells cs T (0, 0))) {u : Value} (hu : cs[o]? = some u) : w.setCell ⟨b, o, none⟩ u = w := by
  have e1 : cs.setIfInBounds o u = cs := by
    apply Array.ext_getElem?
    intro i
    rw [Array.getElem?_setIfInBounds]
    split
    · rename_i e
      subst e
      split
      · exact hu.symm
      · rename_i h'
        exact absurd (Array.getElem?_eq_some_iff.1 hu).1 h'
    · rfl
  have e2 : (w.setCell ⟨b, o, none⟩ u).heap = w.heap := by
    apply Array.ext_getElem?
    intro k
    by_cases e : k = b
    · subst e
      rw [heap_setCell_same w k o cs T u h, e1]
      exact h.symm
    · exact heap_setCell_other w ⟨b, o, none⟩ k u e
  have e3 : w.setCell ⟨b, o, none⟩ u = { w with heap := (w.setCell ⟨b, o, none⟩ u).heap } := rfl
  rw [e3, e2]

/-- What is new: apart from all that was there. -/
theorem SV.far {w : World} {X Y : Nat → Prop} {v : Value} {l : List Int} (h : SV w X v l) (hY : ∀ k, Y k → X k) : SV w Y v l := by
  obtain ⟨A, n, c, rfl, h1, h2, h3, h4⟩ := h
  exact ⟨A, n, c, rfl, h1, h2, h3, fun a ha hn hy => h4 a ha hn (hY _ hy)⟩
theorem SV.bytes {w : World} {X : Nat → Prop} {v : Value} {l : List Int} (h : SV w X v l) : AllBytes l := by
  obtain ⟨A, n, c, rfl, h1, h2, h3, h4⟩ := h
  exact h3.bytes
theorem SV.nil_ (w : World) (X : Nat → Prop) (c : Nat) : SV w X (.slice none 0 c) [] := ⟨none, 0, c, rfl, Nat.zero_le _, Nat.zero_le _, RB.nil_, fun a h => by cases h⟩
theorem SV.of_own {w : World} {base n : Nat} {v : Value} {l : List Int} (h : w.ownsRow base 5 1 v n (l.map (Value.int .u8))) (hl : AllBytes l) (hn : n ≤ 140737488355328) {X : Nat → Prop} (hX : ∀ k, X k → k < base) : SV w X v l := by
  obtain ⟨A, c, rfl, hc⟩ := own_shape h
  refine ⟨A, n, c, rfl, hc, hn, RB.of_own h hl, fun a ha hp hx => ?_⟩
  subst ha
  have := own_ge h a.block (by
    rcases h.2 with ⟨e, h0⟩ | ⟨g, cap, cur, e, _⟩
    · omega
    · cases e; rfl)
  have := hX _ hx
  omega

set_option maxHeartbeats 400000 in
/-- slices.Clone on bytes: what is new. -/
theorem SCloneN_any {w : World} {B n : Nat} {A : Option Addr} {l : List Int} (c : Nat) (h : RB w B A n l) (hB : B ≤ w.heap.size) (hn : n ≤ 140737488355328) :
    Calls Tryz.prog 36 #[.slice A n c] w fun e w' => ∃ v, e = .returned v ∧ SV w' (fun k => k < w.heap.size) v l ∧ Below w.heap.size w w' := by
  have q22 : ∀ (w : World) (a : Option Addr) (n c n' c' : Nat), (binOp .eql 54 (.slice a n c) (.slice none n' c')).run Tryz.prog w = .ok (.bool a.isNone) w := fun w a n c n' c' => Lib.run_eql_slice_nil w _ _ a n c n' c' Tryz.underlying54
  rcases A with _ | ad
  · have hm : n = 0 := by
      rcases Nat.eq_zero_or_pos n with h0 | h0
      · exact h0
      · obtain ⟨b, off, e, _⟩ := h.at_ h0; cases e
    subst hm
    obtain rfl : l = [] := List.eq_nil_of_length_eq_zero h.len
    go_enter Tryz.func36, Tryz.ntmps36
    go_wp2
    go_ret
    exact ⟨_, rfl, SV.nil_ _ _ _, Below.refl _ _⟩
  · go_enter Tryz.func36, Tryz.ntmps36
    go_wp2_with (at_builtin; refine wpList_append_bytes rfl _ _ rfl w.heap.size _ 0 [] rfl (World.ownsRow_made w #[] 0 (Nat.le_refl _) (Nat.zero_le _) rfl) B (some ad) n c l rfl (h.alloc hB _) (by omega) (by simp) ?_; intro v1 w1 hown1 _ hb1)
    simp only [Nat.zero_add, List.nil_append] at hown1
    go_ret
    exact ⟨_, rfl, SV.of_own hown1 h.bytes hn (fun k hk => hk), ((Below.refl w.heap.size w).alloc (Nat.le_refl _) _).trans hb1⟩

end Go.Proofs.YtihjlhegcoceoaaGreat
