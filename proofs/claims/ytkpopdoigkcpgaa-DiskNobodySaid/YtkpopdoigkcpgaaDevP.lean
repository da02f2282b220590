/-
  How the program's disk lies in memory, and what its parts keep. Plain facts; no condition beyond what each says.
-/
import Derived.Test.YtkpopdoigkcpgaaDiskSafeP
import Derived.Test.YtkpopdoigkcpgaaIMap
import Derived.Test.YtkpopdoigkcpgaaIntApp
import Derived.Test.YtkpopdoigkcpgaaApp
import Derived.Deep.OwnRows
namespace Go.Proofs.Ytkpopdoigkcpgaa
open Go.RowKit
set_option linter.unusedVariables false

/-- A sector's bytes behind a value: 256 of a block of F's own. -/
def Cont (w : World) (F : Nat → Prop) (v : Value) (l : List Int) : Prop :=
  ∃ g c cur, v = .slice (some ⟨g, 0, none⟩) 256 c ∧ 256 ≤ c ∧ F g ∧ w.heap[g]? = some (.cells cur 5 (0, 0)) ∧ ∀ j, j < 256 → cur[j]? = some (.int .u8 (l[j]?.getD 0))
theorem Cont.keep {w w' : World} {F F' : Nat → Prop} {v : Value} {l : List Int} (h : Cont w F v l) (hF : ∀ k, F k → k < w.heap.size → F' k) (hk : ∀ g cur, F g → w.heap[g]? = some (.cells cur 5 (0, 0)) → w'.heap[g]? = w.heap[g]?) : Cont w' F' v l := by
  obtain ⟨g, c, cur, e, hc, hg, hb, hcell⟩ := h
  exact ⟨g, c, cur, e, hc, hF g hg (Array.getElem?_eq_some_iff.1 hb).1, (hk g cur hg hb).trans hb, hcell⟩
theorem Cont.rb {w : World} {F : Nat → Prop} {v : Value} {l : List Int} (h : Cont w F v l) (hl : l.length = 256 ∧ AllBytes l) : ∃ g c, v = .slice (some ⟨g, 0, none⟩) 256 c ∧ 256 ≤ c ∧ RB w w.heap.size (some ⟨g, 0, none⟩) 256 l := by
  obtain ⟨g, c, cur, e, hc, hg, hb, hcell⟩ := h
  refine ⟨g, c, e, hc, hl.1, hl.2, fun _ => ⟨g, 0, rfl, (Array.getElem?_eq_some_iff.1 hb).1, fun j hj => ?_⟩⟩
  rw [Nat.zero_add, cell_of_row w g j cur 5 (0, 0) hb]
  exact hcell j hj
theorem Cont.of_own {w : World} {F : Nat → Prop} {v : Value} {l : List Int} {base : Nat} (h : w.ownsRow base 5 1 v 256 (l.map (Value.int .u8))) (hF : ∀ k, base ≤ k → F k) : Cont w F v l := by
  have hlen : l.length = 256 := by simpa using h.1
  rcases h.2 with ⟨_, h0⟩ | ⟨g, cap, cur, hv, hbg, hg, hc, _, _, htake⟩
  · cases h0
  · refine ⟨g, cap, cur, hv, hc, hF g hbg, hg, fun j hj => ?_⟩
    have e1 : (l.map (Value.int .u8))[j]? = some (.int .u8 (l[j]?.getD 0)) := by simp [List.getElem?_eq_getElem (show j < l.length by omega)]
    rw [← e1, ← htake, List.getElem?_take, if_pos (by omega)]
    simp

/-- What a sector that may not be there has. -/
def CO (w : World) (F : Nat → Prop) (o : Option Value) (l : List Int) : Prop := match o with | none => l = nought | some v => Cont w F v l

def diskRow (left : Int) (down : Bool) (n sb fb : Nat) (pv : Value) (wr : Nat) : Nat → Value
  | 0 => .int .i64 left
  | 1 => .bool down
  | 2 => .int .i64 n
  | 3 => .map (some sb)
  | 4 => .map (some fb)
  | 5 => pv
  | _ => .int .i64 wr

/-- The disk's maps and list. -/
structure Rest (w : World) (F : Nat → Prop) (sb fb : Nat) (pv : Value) (n : Nat) (safe last : Nat → List Int) (pl : List Nat) (sN fN : Nat) (sf ff : Int → Option Value) : Prop where
  safeM : IMap w sb sN sf
  freshM : IMap w fb fN ff
  ne : sb ≠ fb
  pend : w.ownsRow 0 3 1 pv pl.length ((pl.map Int.ofNat).map (Value.int .i64))
  safeC : ∀ i : Nat, i < n → CO w F (sf i) (safe i)
  freshC : ∀ i : Nat, i < n → ∀ v, ff i = some v → Cont w F v (last i)
  Fs : F sb
  Ff : F fb
  Fp : ∀ g, pv.ownBlock = some g → F g

section
variable {w w' : World} {F F' : Nat → Prop} {b sb fb : Nat} {pv : Value} {n : Nat} {safe last : Nat → List Int} {pl : List Nat} {sN fN : Nat} {sf ff : Int → Option Value}

theorem own_row {base e size m : Nat} {v : Value} {xs : List Value} (h : w.ownsRow base e size v m xs) : ∀ g, v.ownBlock = some g → ∃ cur, w.heap[g]? = some (.cells cur e (0, 0)) := by
  intro g hg
  rcases h.2 with ⟨rfl, _⟩ | ⟨g', cap, cur, rfl, _, hb, _⟩
  · simp [Value.ownBlock] at hg
  · simp [Value.ownBlock] at hg
    subst hg
    exact ⟨cur, hb⟩
theorem own_keep {base e size m : Nat} {v : Value} {xs : List Value} (h : w.ownsRow base e size v m xs) (hk : ∀ g, v.ownBlock = some g → w'.heap[g]? = w.heap[g]?) : w'.ownsRow base e size v m xs := by
  rcases h.2 with h' | ⟨g, cap, cur, rfl, hg, hb, h3⟩
  · exact ⟨h.1, .inl h'⟩
  · exact ⟨h.1, .inr ⟨g, cap, cur, rfl, hg, (hk g (by simp [Value.ownBlock])).trans hb, h3⟩⟩
theorem CO.keep {o : Option Value} {l : List Int} (h : CO w F o l) (hF : ∀ k, F k → k < w.heap.size → F' k) (hk : ∀ g cur, F g → w.heap[g]? = some (.cells cur 5 (0, 0)) → w'.heap[g]? = w.heap[g]?) : CO w' F' o l := by
  rcases o with _ | v
  · exact h
  · exact Cont.keep h hF hk

/-- Nothing of it was written. -/
theorem Rest.keep (h : Rest w F sb fb pv n safe last pl sN fN sf ff) (hF : ∀ k, F k → k < w.heap.size → F' k) (hk : ∀ k, F k → k < w.heap.size → (∀ c, w.heap[k]? ≠ some (.cells c 61 (0, 0))) → w'.heap[k]? = w.heap[k]?) : Rest w' F' sb fb pv n safe last pl sN fN sf ff := by
  obtain ⟨es1, c1, hb1⟩ := h.safeM.block
  obtain ⟨es2, c2, hb2⟩ := h.freshM.block
  have hc : ∀ g cur, F g → w.heap[g]? = some (.cells cur 5 (0, 0)) → w'.heap[g]? = w.heap[g]? := fun g cur hg hb => hk g hg (Array.getElem?_eq_some_iff.1 hb).1 (fun c e => by rw [hb] at e; simp at e)
  refine ⟨h.safeM.of_block (hk _ h.Fs h.safeM.lt (fun c e => by rw [hb1] at e; cases e)), h.freshM.of_block (hk _ h.Ff h.freshM.lt (fun c e => by rw [hb2] at e; cases e)), h.ne, own_keep h.pend (fun g hg => ?_), fun i hi => (h.safeC i hi).keep hF hc, fun i hi v hv => (h.freshC i hi v hv).keep hF hc, hF _ h.Fs h.safeM.lt, hF _ h.Ff h.freshM.lt, fun g hg => ?_⟩
  · obtain ⟨cur, hb⟩ := own_row h.pend g hg
    exact hk g (h.Fp g hg) (Array.getElem?_eq_some_iff.1 hb).1 (fun c e => by rw [hb] at e; simp at e)
  · obtain ⟨cur, hb⟩ := own_row h.pend g hg
    exact hF _ (h.Fp g hg) (Array.getElem?_eq_some_iff.1 hb).1

/-- One number more is pending. -/
theorem Rest.pended (h : Rest w F sb fb pv n safe last pl sN fN sf ff) {v' : Value} {i : Nat} (hg : w.grownBy w' pv.ownBlock) (hp : w'.ownsRow 0 3 1 v' (pl ++ [i]).length (((pl ++ [i]).map Int.ofNat).map (Value.int .i64))) (hv : ∀ g, v'.ownBlock = some g → F g) : Rest w' F sb fb v' n safe last (pl ++ [i]) sN fN sf ff := by
  obtain ⟨es1, c1, hb1⟩ := h.safeM.block
  obtain ⟨es2, c2, hb2⟩ := h.freshM.block
  have hother : ∀ k, k < w.heap.size → (∀ cur, w.heap[k]? ≠ some (.cells cur 3 (0, 0))) → w'.heap[k]? = w.heap[k]? := fun k hk hne => hg.block k hk (fun e => by
    obtain ⟨cur, hb⟩ := own_row h.pend k e.symm
    exact hne cur hb)
  have hc : ∀ g cur, F g → w.heap[g]? = some (.cells cur 5 (0, 0)) → w'.heap[g]? = w.heap[g]? := fun g cur _ hb => hother g (Array.getElem?_eq_some_iff.1 hb).1 (fun c e => by rw [hb] at e; simp at e)
  exact ⟨h.safeM.of_block (hother _ h.safeM.lt (fun c e => by rw [hb1] at e; cases e)), h.freshM.of_block (hother _ h.freshM.lt (fun c e => by rw [hb2] at e; cases e)), h.ne, hp, fun i hi => (h.safeC i hi).keep (fun _ h _ => h) hc, fun i hi v hv => (h.freshC i hi v hv).keep (fun _ h _ => h) hc, h.Fs, h.Ff, hv⟩

theorem map_kept {x : Nat} (hx : ∃ es c, w.heap[x]? = some (.map es c)) (hg : w.grownBy w' (some x)) : (∀ k, k < w.heap.size → k ≠ x → w'.heap[k]? = w.heap[k]?) ∧ (∀ g cur, F g → w.heap[g]? = some (.cells cur 5 (0, 0)) → w'.heap[g]? = w.heap[g]?) ∧ (∀ (g : Nat) (cur : Array Value) (e : TypeId), w.heap[g]? = some (.cells cur e (0, 0)) → w'.heap[g]? = w.heap[g]?) := by
  obtain ⟨es, c, hb⟩ := hx
  have h1 : ∀ k, k < w.heap.size → k ≠ x → w'.heap[k]? = w.heap[k]? := fun k hk hne => hg.block k hk (fun e => hne (by injection e))
  have h3 : ∀ (g : Nat) (cur : Array Value) (e : TypeId), w.heap[g]? = some (.cells cur e (0, 0)) → w'.heap[g]? = w.heap[g]? := fun g cur e hg' => h1 g (Array.getElem?_eq_some_iff.1 hg').1 (fun e' => by rw [e', hb] at hg'; cases hg')
  exact ⟨h1, fun g cur _ hg' => h3 g cur _ hg', h3⟩

/-- The map of what was written last has turned. -/
theorem Rest.freshed (h : Rest w F sb fb pv n safe last pl sN fN sf ff) (hg : w.grownBy w' (some fb)) {fN' : Nat} {ff' : Int → Option Value} (hm : IMap w' fb fN' ff') {last' : Nat → List Int} (hc' : ∀ i : Nat, i < n → ∀ v, ff' i = some v → (ff i = some v ∧ last' i = last i) ∨ Cont w F v (last' i)) : Rest w' F sb fb pv n safe last' pl sN fN' sf ff' := by
  obtain ⟨h1, hc, h3⟩ := map_kept (F := F) h.freshM.block hg
  refine ⟨h.safeM.of_block (h1 _ h.safeM.lt h.ne), hm, h.ne, own_keep h.pend (fun g hg => ?_), fun i hi => (h.safeC i hi).keep (fun _ h _ => h) hc, fun i hi v hv => ?_, h.Fs, h.Ff, h.Fp⟩
  · obtain ⟨cur, hb⟩ := own_row h.pend g hg
    exact h3 g cur _ hb
  · rcases hc' i hi v hv with ⟨e1, e2⟩ | e
    · rw [e2]
      exact (h.freshC i hi v e1).keep (fun _ h _ => h) hc
    · exact e.keep (fun _ h _ => h) hc

/-- The map of what is safe has turned. -/
theorem Rest.safed (h : Rest w F sb fb pv n safe last pl sN fN sf ff) (hg : w.grownBy w' (some sb)) {sN' : Nat} {sf' : Int → Option Value} (hm : IMap w' sb sN' sf') {safe' : Nat → List Int} (hc' : ∀ i : Nat, i < n → (sf' i = sf i ∧ safe' i = safe i) ∨ CO w F (sf' i) (safe' i)) : Rest w' F sb fb pv n safe' last pl sN' fN sf' ff := by
  obtain ⟨h1, hc, h3⟩ := map_kept (F := F) h.safeM.block hg
  refine ⟨hm, h.freshM.of_block (h1 _ h.freshM.lt (Ne.symm h.ne)), h.ne, own_keep h.pend (fun g hg => ?_), fun i hi => ?_, fun i hi v hv => (h.freshC i hi v hv).keep (fun _ h _ => h) hc, h.Fs, h.Ff, h.Fp⟩
  · obtain ⟨cur, hb⟩ := own_row h.pend g hg
    exact h3 g cur _ hb
  · rcases hc' i hi with ⟨e1, e2⟩ | e
    · rw [e1, e2]
      exact (h.safeC i hi).keep (fun _ h _ => h) hc
    · exact e.keep (fun _ h _ => h) hc

/-- The list is empty again. -/
theorem Rest.emptied (h : Rest w F sb fb pv n safe last pl sN fN sf ff) {v' : Value} (hv : v' = .slice none 0 0 ∧ pv = .slice none 0 0 ∨ ∃ A m c, pv = .slice (some A) m c ∧ v' = .slice (some A) 0 c) : Rest w F sb fb v' n safe last [] sN fN sf ff := by
  rcases hv with ⟨rfl, rfl⟩ | ⟨A, m, c, rfl, rfl⟩
  · exact { h with pend := ⟨rfl, .inl ⟨rfl, rfl⟩⟩ }
  · have hp := h.pend
    rcases hp.2 with ⟨e, _⟩ | ⟨g, cap, cur, e, hb, hg, hc, hm, hs, _⟩
    · cases e
    · cases e
      exact { h with pend := ⟨rfl, .inr ⟨g, c, cur, rfl, hb, hg, Nat.zero_le _, hm, hs, rfl⟩⟩, Fp := fun g' hg' => h.Fp g' (by simpa [Value.ownBlock] using hg') }
end

/-- How many writes the fuse lets through. -/
def ArmIs (left : Int) (arm : Option Nat) : Prop := (-9223372036854775808 ≤ left ∧ left ≤ 9223372036854775807) ∧ (left < 0 ∧ arm = none ∨ ∃ k : Nat, left = k ∧ arm = some k)

/-- In w the program's disk S lies at p, in the blocks of F. -/
def DAt (w : World) (F : Nat → Prop) (p : Addr) (S : DS) : Prop :=
  ∃ b sb fb left pv sN fN sf ff, p = ⟨b, 0, none⟩ ∧ w.rowIs b 61 7 (diskRow left S.down S.n sb fb pv S.writes) ∧ Rest w F sb fb pv S.n S.safe S.last S.pend sN fN sf ff ∧ ArmIs left S.arm ∧ S.Ok ∧ (∀ i : Nat, i < S.n → ((ff i).isSome = true ↔ i ∈ S.pend)) ∧ (sN + fN ≤ S.writes ∧ S.pend.length ≤ fN ∧ S.writes ≤ 9223372036854775807) ∧ F b ∧ ∀ k, F k → k < w.heap.size

theorem lt_of_same {w w' : World} {k : Nat} (hlt : k < w.heap.size) (e : w'.heap[k]? = w.heap[k]?) : k < w'.heap.size := by
  rcases Nat.lt_or_ge k w'.heap.size with h | h
  · exact h
  · rw [Array.getElem?_eq_none h, Array.getElem?_eq_getElem hlt] at e
    cases e
theorem DAt.keep {w w' : World} {F : Nat → Prop} {p : Addr} {S : DS} (h : DAt w F p S) (hk : ∀ k, F k → w'.heap[k]? = w.heap[k]?) : DAt w' F p S := by
  obtain ⟨b, sb, fb, left, pv, sN, fN, sf, ff, rfl, hrow, hrest, harm, hok, hdom, hcnt, hFb, hlt⟩ := h
  exact ⟨b, sb, fb, left, pv, sN, fN, sf, ff, rfl, hrow.of_block (hk _ hFb), hrest.keep (fun _ h _ => h) (fun k hk' _ _ => hk k hk'), harm, hok, hdom, hcnt, hFb, fun k hk' => lt_of_same (hlt k hk') (hk k hk')⟩

/-- What a disk of F has become, its new blocks with it. -/
def After (F : Nat → Prop) (w w' : World) (p : Addr) (S' : DS) : Prop := ∃ F' : Nat → Prop, DAt w' F' p S' ∧ Touch F w w' ∧ ∀ k, F' k → F k ∨ w.heap.size ≤ k

/-- The blocks of F, and all new ones. -/
def FN (F : Nat → Prop) (w : World) : Nat → Prop := fun k => F k ∨ w.heap.size ≤ k

theorem Touch.grow {F : Nat → Prop} {w0 w w' : World} {row : Option Nat} (h : Touch F w0 w) (hg : w.grownBy w' row) (hr : ∀ x, row = some x → FN F w0 x) : Touch F w0 w' :=
  ⟨hg.os.trans h.os, hg.tape.trans h.tape, hg.output.trans h.output, Nat.le_trans h.size hg.size, fun k hk hF => (hg.block k (Nat.lt_of_lt_of_le hk h.size) (fun e => by
    rcases hr k e.symm with h1 | h1
    · exact hF h1
    · omega)).trans (h.block k hk hF)⟩
theorem grown_setCell (w : World) (b o : Nat) (v : Value) : w.grownBy (w.setCell ⟨b, o, none⟩ v) (some b) :=
  ⟨rfl, rfl, rfl, by simp, fun k _ hk => Below.heap_setCell w ⟨b, o, none⟩ v k (fun e => hk (by rw [e]))⟩
theorem grown_below {w w' : World} (h : Below w.heap.size w w') : w.grownBy w' none := ⟨h.os, h.tape, h.output, h.size, fun k hk _ => h.block k hk⟩

/-- The parts joined again. -/
theorem After.mk' {w0 w : World} {F : Nat → Prop} {b sb fb : Nat} {left : Int} {pv : Value} {sN fN : Nat} {sf ff : Int → Option Value} {S : DS} (hrow : w.rowIs b 61 7 (diskRow left S.down S.n sb fb pv S.writes)) (hrest : Rest w (FN F w0) sb fb pv S.n S.safe S.last S.pend sN fN sf ff) (harm : ArmIs left S.arm) (hok : S.Ok)
    (hdom : ∀ i : Nat, i < S.n → ((ff i).isSome = true ↔ i ∈ S.pend)) (hcnt : sN + fN ≤ S.writes ∧ S.pend.length ≤ fN ∧ S.writes ≤ 9223372036854775807) (hb : FN F w0 b) (ht : Touch F w0 w) : After F w0 w ⟨b, 0, none⟩ S :=
  ⟨fun k => FN F w0 k ∧ k < w.heap.size, ⟨b, sb, fb, left, pv, sN, fN, sf, ff, rfl, hrow, hrest.keep (fun k h1 h2 => ⟨h1, h2⟩) (fun _ _ _ _ => rfl), harm, hok, hdom, hcnt, ⟨hb, hrow.lt⟩, fun k hk => hk.2⟩, ht, fun k hk => hk.1⟩

end Go.Proofs.Ytkpopdoigkcpgaa
