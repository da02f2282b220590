/-
  The texts DevP, DevA, DevB, DevC, DevD joined. Conditions: those that each part says at its head.
-/
import Derived.Test.YtinhdimalhfgkaaGreatDoorG2
import Derived.Test.YtinhdimalhfgkaaGreatDoorG11
import Derived.Test.YtinhdimalhfgkaaGreatDoorG7
import Derived.Test.YtinhdimalhfgkaaGreatDoorG3
import Derived.Deep.OwnRows
import Derived.BigQuiet
import Derived.Carry
import Derived.Maps.AppendAt
import Derived.Deep.RegionWith

/-
  How the program's disk lies in memory, and what its parts keep. Plain facts; no condition beyond what each says.
-/
namespace Go.Proofs.YtinhdimalhfgkaaGreatDoor
open Go.RowKit
set_option maxRecDepth 100000
set_option linter.unusedVariables false

/-- A sector's bytes behind a value: 256 of a block of F's own. -/
def Cont (w : World) (F : Nat → Prop) (v : Value) (l : List Int) : Prop :=
  ∃ g c cur, v = .slice (some ⟨g, 0, none⟩) 256 c ∧ 256 ≤ c ∧ F g ∧ w.heap[g]? = some (.cells cur 5 (0, 0)) ∧ ∀ j, j < 256 → cur[j]? = some (.int .u8 (l[j]?.getD 0))
theorem Cont.keep {w w' : World} {F F' : Nat → Prop} {v : Value} {l : List Int} (h : Cont w F v l) (hF : ∀ k, F k → k < w.heap.size → F' k) (hk : ∀ g cur, F g → w.heap[g]? = some (.cells cur 5 (0, 0)) → w'.heap[g]? = w.heap[g]?) : Cont w' F' v l := by
  obtain ⟨g, c, cur, e, hc, hg, hb, hcell⟩ := h
  exact ⟨g, c, cur, e, hc, hF g hg (Array.getElem?_eq_some_iff.1 hb).1, (hk g cur hg hb).trans hb, hcell⟩
theorem Cont.rb {w : World} {F : Nat → Prop} {v : Value} {l : List Int} (h : Cont w F v l) (hl : l.length = 256 ∧ AllBytes l) : ∃ g c, v = .slice (some ⟨g, 0, none⟩) 256 c ∧ 256 ≤ c ∧ RB w w.heap.size (some ⟨g, 0, none⟩) 256 l := by
  obtain ⟨g, c, cur, e, hc, hg, hb, hcell⟩ := h
  refine ⟨g, c, e, hc, hl.1, hl.2, fun _ => ⟨g, 0, rfl, (Array.getElem?_eq_some_iff.1 hb).1, fun j hj => ?_⟩⟩
  rw [Nat.zero_add, cell_of_row w g j cur 5 (0, 0) hb]
  exact hcell j hj
theorem Cont.of_own {w : World} {F : Nat → Prop} {v : Value} {l : List Int} {base : Nat} (h : w.ownsRow base 5 1 v 256 (l.map (Value.int .u8))) (hF : ∀ k, base ≤ k → F k) : Cont w F v l := by
  have hlen : l.length = 256 := by simpa using h.1
  rcases h.2 with ⟨_, h0⟩ | ⟨g, cap, cur, hv, hbg, hg, hc, _, _, htake⟩
  · cases h0
  · refine ⟨g, cap, cur, hv, hc, hF g hbg, hg, fun j hj => ?_⟩
    have e1 : (l.map (Value.int .u8))[j]? = some (.int .u8 (l[j]?.getD 0)) := by simp [List.getElem?_eq_getElem (show j < l.length by omega)]
    rw [← e1, ← htake, List.getElem?_take, if_pos (by omega)]
    simp

/-- What a sector that may not be there has. -/
def CO (w : World) (F : Nat → Prop) (o : Option Value) (l : List Int) : Prop := match o with | none => l = nought | some v => Cont w F v l

def diskRow (left : Int) (down : Bool) (n sb fb : Nat) (pv : Value) (wr : Nat) : Nat → Value
  | 0 => .int .i64 left
  | 1 => .bool down
  | 2 => .int .i64 n
  | 3 => .map (some sb)
  | 4 => .map (some fb)
  | 5 => pv
  | _ => .int .i64 wr

/-- The disk's maps and list. -/
structure Rest (w : World) (F : Nat → Prop) (sb fb : Nat) (pv : Value) (n : Nat) (safe last : Nat → List Int) (pl : List Nat) (sN fN : Nat) (sf ff : Int → Option Value) : Prop where
  safeM : IMap w sb sN sf
  freshM : IMap w fb fN ff
  ne : sb ≠ fb
  pend : w.ownsRow 0 3 1 pv pl.length ((pl.map Int.ofNat).map (Value.int .i64))
  safeC : ∀ i : Nat, i < n → CO w F (sf i) (safe i)
  freshC : ∀ i : Nat, i < n → ∀ v, ff i = some v → Cont w F v (last i)
  Fs : F sb
  Ff : F fb
  Fp : ∀ g, pv.ownBlock = some g → F g

section
variable {w w' : World} {F F' : Nat → Prop} {b sb fb : Nat} {pv : Value} {n : Nat} {safe last : Nat → List Int} {pl : List Nat} {sN fN : Nat} {sf ff : Int → Option Value}

theorem own_row {base e size m : Nat} {v : Value} {xs : List Value} (h : w.ownsRow base e size v m xs) : ∀ g, v.ownBlock = some g → ∃ cur, w.heap[g]? = some (.cells cur e (0, 0)) := by
  intro g hg
  rcases h.2 with ⟨rfl, _⟩ | ⟨g', cap, cur, rfl, _, hb, _⟩
  · simp [Value.ownBlock] at hg
  · simp [Value.ownBlock] at hg
    subst hg
    exact ⟨cur, hb⟩
theorem own_keep {base e size m : Nat} {v : Value} {xs : List Value} (h : w.ownsRow base e size v m xs) (hk : ∀ g, v.ownBlock = some g → w'.heap[g]? = w.heap[g]?) : w'.ownsRow base e size v m xs := by
  rcases h.2 with h' | ⟨g, cap, cur, rfl, hg, hb, h3⟩
  · exact ⟨h.1, .inl h'⟩
  · exact ⟨h.1, .inr ⟨g, cap, cur, rfl, hg, (hk g (by simp [Value.ownBlock])).trans hb, h3⟩⟩
theorem CO.keep {o : Option Value} {l : List Int} (h : CO w F o l) (hF : ∀ k, F k → k < w.heap.size → F' k) (hk : ∀ g cur, F g → w.heap[g]? = some (.cells cur 5 (0, 0)) → w'.heap[g]? = w.heap[g]?) : CO w' F' o l := by
  rcases o with _ | v
  · exact h
  · exact Cont.keep h hF hk

/-- Nothing of it was written. -/
theorem Rest.keep (h : Rest w F sb fb pv n safe last pl sN fN sf ff) (hF : ∀ k, F k → k < w.heap.size → F' k) (hk : ∀ k, F k → k < w.heap.size → (∀ c, w.heap[k]? ≠ some (.cells c 125 (0, 0))) → w'.heap[k]? = w.heap[k]?) : Rest w' F' sb fb pv n safe last pl sN fN sf ff := by
  obtain ⟨es1, c1, hb1⟩ := h.safeM.block
  obtain ⟨es2, c2, hb2⟩ := h.freshM.block
  have hc : ∀ g cur, F g → w.heap[g]? = some (.cells cur 5 (0, 0)) → w'.heap[g]? = w.heap[g]? := fun g cur hg hb => hk g hg (Array.getElem?_eq_some_iff.1 hb).1 (fun c e => by rw [hb] at e; simp at e)
  refine ⟨h.safeM.of_block (hk _ h.Fs h.safeM.lt (fun c e => by rw [hb1] at e; cases e)), h.freshM.of_block (hk _ h.Ff h.freshM.lt (fun c e => by rw [hb2] at e; cases e)), h.ne, own_keep h.pend (fun g hg => ?_), fun i hi => (h.safeC i hi).keep hF hc, fun i hi v hv => (h.freshC i hi v hv).keep hF hc, hF _ h.Fs h.safeM.lt, hF _ h.Ff h.freshM.lt, fun g hg => ?_⟩
  · obtain ⟨cur, hb⟩ := own_row h.pend g hg
    exact hk g (h.Fp g hg) (Array.getElem?_eq_some_iff.1 hb).1 (fun c e => by rw [hb] at e; simp at e)
  · obtain ⟨cur, hb⟩ := own_row h.pend g hg
    exact hF _ (h.Fp g hg) (Array.getElem?_eq_some_iff.1 hb).1

/-- One number more is pending. -/
theorem Rest.pended (h : Rest w F sb fb pv n safe last pl sN fN sf ff) {v' : Value} {i : Nat} (hg : w.grownBy w' pv.ownBlock) (hp : w'.ownsRow 0 3 1 v' (pl ++ [i]).length (((pl ++ [i]).map Int.ofNat).map (Value.int .i64))) (hv : ∀ g, v'.ownBlock = some g → F g) : Rest w' F sb fb v' n safe last (pl ++ [i]) sN fN sf ff := by
  obtain ⟨es1, c1, hb1⟩ := h.safeM.block
  obtain ⟨es2, c2, hb2⟩ := h.freshM.block
  have hother : ∀ k, k < w.heap.size → (∀ cur, w.heap[k]? ≠ some (.cells cur 3 (0, 0))) → w'.heap[k]? = w.heap[k]? := fun k hk hne => hg.block k hk (fun e => by
    obtain ⟨cur, hb⟩ := own_row h.pend k e.symm
    exact hne cur hb)
  have hc : ∀ g cur, F g → w.heap[g]? = some (.cells cur 5 (0, 0)) → w'.heap[g]? = w.heap[g]? := fun g cur _ hb => hother g (Array.getElem?_eq_some_iff.1 hb).1 (fun c e => by rw [hb] at e; simp at e)
  exact ⟨h.safeM.of_block (hother _ h.safeM.lt (fun c e => by rw [hb1] at e; cases e)), h.freshM.of_block (hother _ h.freshM.lt (fun c e => by rw [hb2] at e; cases e)), h.ne, hp, fun i hi => (h.safeC i hi).keep (fun _ h _ => h) hc, fun i hi v hv => (h.freshC i hi v hv).keep (fun _ h _ => h) hc, h.Fs, h.Ff, hv⟩

theorem map_kept {x : Nat} (hx : ∃ es c, w.heap[x]? = some (.map es c)) (hg : w.grownBy w' (some x)) : (∀ k, k < w.heap.size → k ≠ x → w'.heap[k]? = w.heap[k]?) ∧ (∀ g cur, F g → w.heap[g]? = some (.cells cur 5 (0, 0)) → w'.heap[g]? = w.heap[g]?) ∧ (∀ (g : Nat) (cur : Array Value) (e : TypeId), w.heap[g]? = some (.cells cur e (0, 0)) → w'.heap[g]? = w.heap[g]?) := by
  obtain ⟨es, c, hb⟩ := hx
  have h1 : ∀ k, k < w.heap.size → k ≠ x → w'.heap[k]? = w.heap[k]? := fun k hk hne => hg.block k hk (fun e => hne (by injection e))
  have h3 : ∀ (g : Nat) (cur : Array Value) (e : TypeId), w.heap[g]? = some (.cells cur e (0, 0)) → w'.heap[g]? = w.heap[g]? := fun g cur e hg' => h1 g (Array.getElem?_eq_some_iff.1 hg').1 (fun e' => by rw [e', hb] at hg'; cases hg')
  exact ⟨h1, fun g cur _ hg' => h3 g cur _ hg', h3⟩

/-- The map of what was written last has turned. -/
theorem Rest.freshed (h : Rest w F sb fb pv n safe last pl sN fN sf ff) (hg : w.grownBy w' (some fb)) {fN' : Nat} {ff' : Int → Option Value} (hm : IMap w' fb fN' ff') {last' : Nat → List Int} (hc' : ∀ i : Nat, i < n → ∀ v, ff' i = some v → (ff i = some v ∧ last' i = last i) ∨ Cont w F v (last' i)) : Rest w' F sb fb pv n safe last' pl sN fN' sf ff' := by
  obtain ⟨h1, hc, h3⟩ := map_kept (F := F) h.freshM.block hg
  refine ⟨h.safeM.of_block (h1 _ h.safeM.lt h.ne), hm, h.ne, own_keep h.pend (fun g hg => ?_), fun i hi => (h.safeC i hi).keep (fun _ h _ => h) hc, fun i hi v hv => ?_, h.Fs, h.Ff, h.Fp⟩
  · obtain ⟨cur, hb⟩ := own_row h.pend g hg
    exact h3 g cur _ hb
  · rcases hc' i hi v hv with ⟨e1, e2⟩ | e
    · rw [e2]
      exact (h.freshC i hi v e1).keep (fun _ h _ => h) hc
    · exact e.keep (fun _ h _ => h) hc

/-- The map of what is safe has turned. -/
theorem Rest.safed (h : Rest w F sb fb pv n safe last pl sN fN sf ff) (hg : w.grownBy w' (some sb)) {sN' : Nat} {sf' : Int → Option Value} (hm : IMap w' sb sN' sf') {safe' : Nat → List Int} (hc' : ∀ i : Nat, i < n → (sf' i = sf i ∧ safe' i = safe i) ∨ CO w F (sf' i) (safe' i)) : Rest w' F sb fb pv n safe' last pl sN' fN sf' ff := by
  obtain ⟨h1, hc, h3⟩ := map_kept (F := F) h.safeM.block hg
  refine ⟨hm, h.freshM.of_block (h1 _ h.freshM.lt (Ne.symm h.ne)), h.ne, own_keep h.pend (fun g hg => ?_), fun i hi => ?_, fun i hi v hv => (h.freshC i hi v hv).keep (fun _ h _ => h) hc, h.Fs, h.Ff, h.Fp⟩
  · obtain ⟨cur, hb⟩ := own_row h.pend g hg
    exact h3 g cur _ hb
  · rcases hc' i hi with ⟨e1, e2⟩ | e
    · rw [e1, e2]
      exact (h.safeC i hi).keep (fun _ h _ => h) hc
    · exact e.keep (fun _ h _ => h) hc

/-- The list is empty again. -/
theorem Rest.emptied (h : Rest w F sb fb pv n safe last pl sN fN sf ff) {v' : Value} (hv : v' = .slice none 0 0 ∧ pv = .slice none 0 0 ∨ ∃ A m c, pv = .slice (some A) m c ∧ v' = .slice (some A) 0 c) : Rest w F sb fb v' n safe last [] sN fN sf ff := by
  rcases hv with ⟨rfl, rfl⟩ | ⟨A, m, c, rfl, rfl⟩
  · exact { h with pend := ⟨rfl, .inl ⟨rfl, rfl⟩⟩ }
  · have hp := h.pend
    rcases hp.2 with ⟨e, _⟩ | ⟨g, cap, cur, e, hb, hg, hc, hm, hs, _⟩
    · cases e
    · cases e
      exact { h with pend := ⟨rfl, .inr ⟨g, c, cur, rfl, hb, hg, Nat.zero_le _, hm, hs, rfl⟩⟩, Fp := fun g' hg' => h.Fp g' (by simpa [Value.ownBlock] using hg') }
end

/-- How many writes the fuse lets through. -/
def ArmIs (left : Int) (arm : Option Nat) : Prop := (-9223372036854775808 ≤ left ∧ left ≤ 9223372036854775807) ∧ (left < 0 ∧ arm = none ∨ ∃ k : Nat, left = k ∧ arm = some k)

/-- In w the program's disk S lies at p, in the blocks of F. -/
def DAt (w : World) (F : Nat → Prop) (p : Addr) (S : DS) : Prop :=
  ∃ b sb fb left pv sN fN sf ff, p = ⟨b, 0, none⟩ ∧ w.rowIs b 125 7 (diskRow left S.down S.n sb fb pv S.writes) ∧ Rest w F sb fb pv S.n S.safe S.last S.pend sN fN sf ff ∧ ArmIs left S.arm ∧ S.Ok ∧ (∀ i : Nat, i < S.n → ((ff i).isSome = true ↔ i ∈ S.pend)) ∧ (sN + fN ≤ S.writes ∧ S.pend.length ≤ fN ∧ S.writes ≤ 9223372036854775807) ∧ F b ∧ ∀ k, F k → k < w.heap.size

theorem lt_of_same {w w' : World} {k : Nat} (hlt : k < w.heap.size) (e : w'.heap[k]? = w.heap[k]?) : k < w'.heap.size := by
  rcases Nat.lt_or_ge k w'.heap.size with h | h
  · exact h
  · rw [Array.getElem?_eq_none h, Array.getElem?_eq_getElem hlt] at e
    cases e
theorem DAt.keep {w w' : World} {F : Nat → Prop} {p : Addr} {S : DS} (h : DAt w F p S) (hk : ∀ k, F k → w'.heap[k]? = w.heap[k]?) : DAt w' F p S := by
  obtain ⟨b, sb, fb, left, pv, sN, fN, sf, ff, rfl, hrow, hrest, harm, hok, hdom, hcnt, hFb, hlt⟩ := h
  exact ⟨b, sb, fb, left, pv, sN, fN, sf, ff, rfl, hrow.of_block (hk _ hFb), hrest.keep (fun _ h _ => h) (fun k hk' _ _ => hk k hk'), harm, hok, hdom, hcnt, hFb, fun k hk' => lt_of_same (hlt k hk') (hk k hk')⟩

/-- What a disk of F has become, its new blocks with it. -/
def After (F : Nat → Prop) (w w' : World) (p : Addr) (S' : DS) : Prop := ∃ F' : Nat → Prop, DAt w' F' p S' ∧ Touch F w w' ∧ ∀ k, F' k → F k ∨ w.heap.size ≤ k

/-- The blocks of F, and all new ones. -/
def FN (F : Nat → Prop) (w : World) : Nat → Prop := fun k => F k ∨ w.heap.size ≤ k

theorem Touch.grow {F : Nat → Prop} {w0 w w' : World} {row : Option Nat} (h : Touch F w0 w) (hg : w.grownBy w' row) (hr : ∀ x, row = some x → FN F w0 x) : Touch F w0 w' :=
  ⟨hg.os.trans h.os, hg.tape.trans h.tape, hg.output.trans h.output, Nat.le_trans h.size hg.size, fun k hk hF => (hg.block k (Nat.lt_of_lt_of_le hk h.size) (fun e => by
    rcases hr k e.symm with h1 | h1
    · exact hF h1
    · omega)).trans (h.block k hk hF)⟩
theorem grown_setCell (w : World) (b o : Nat) (v : Value) : w.grownBy (w.setCell ⟨b, o, none⟩ v) (some b) :=
  ⟨rfl, rfl, rfl, by simp, fun k _ hk => Below.heap_setCell w ⟨b, o, none⟩ v k (fun e => hk (by rw [e]))⟩
theorem grown_below {w w' : World} (h : Below w.heap.size w w') : w.grownBy w' none := ⟨h.os, h.tape, h.output, h.size, fun k hk _ => h.block k hk⟩

/-- The parts joined again. -/
theorem After.mk' {w0 w : World} {F : Nat → Prop} {b sb fb : Nat} {left : Int} {pv : Value} {sN fN : Nat} {sf ff : Int → Option Value} {S : DS} (hrow : w.rowIs b 125 7 (diskRow left S.down S.n sb fb pv S.writes)) (hrest : Rest w (FN F w0) sb fb pv S.n S.safe S.last S.pend sN fN sf ff) (harm : ArmIs left S.arm) (hok : S.Ok)
    (hdom : ∀ i : Nat, i < S.n → ((ff i).isSome = true ↔ i ∈ S.pend)) (hcnt : sN + fN ≤ S.writes ∧ S.pend.length ≤ fN ∧ S.writes ≤ 9223372036854775807) (hb : FN F w0 b) (ht : Touch F w0 w) : After F w0 w ⟨b, 0, none⟩ S :=
  ⟨fun k => FN F w0 k ∧ k < w.heap.size, ⟨b, sb, fb, left, pv, sN, fN, sf, ff, rfl, hrow, hrest.keep (fun k h1 h2 => ⟨h1, h2⟩) (fun _ _ _ _ => rfl), harm, hok, hdom, hcnt, ⟨hb, hrow.lt⟩, fun k hk => hk.2⟩, ht, fun k hk => hk.1⟩

end Go.Proofs.YtinhdimalhfgkaaGreatDoor

/-
  The small functions of the program's disk by contract: made, ready, has, the fuse; Size, Writes, Down, Arm; New. No condition beyond what each says of the cells.
-/
namespace Go.Proofs.YtinhdimalhfgkaaGreatDoor
open Go.RowKit
set_option maxRecDepth 100000
set_option linter.unusedVariables false

section
variable {w : World} {b : Nat}

theorem made_nil (w : World) : Calls Tryz.prog 196 #[.pointer none] w fun e w' => e = .returned (.bool false) ∧ w = w' := by
  go_enter Tryz.func196, Tryz.ntmps196
  go_wp2
  go_ret
  exact ⟨rfl, rfl⟩
theorem made_yes {n : Int} (h2 : w.cell? ⟨b, 2, none⟩ = some (.int .i64 n)) (hn : 0 < n) : Calls Tryz.prog 196 #[.pointer (some ⟨b, 0, none⟩)] w fun e w' => e = .returned (.bool true) ∧ w = w' := by
  have k : decide (0 < n) = true := by simpa using hn
  go_enter Tryz.func196, Tryz.ntmps196
  go_wp2
  go_ret
  exact ⟨rfl, rfl⟩
theorem made_no (h2 : w.cell? ⟨b, 2, none⟩ = some (.int .i64 0)) : Calls Tryz.prog 196 #[.pointer (some ⟨b, 0, none⟩)] w fun e w' => e = .returned (.bool false) ∧ w = w' := by
  go_enter Tryz.func196, Tryz.ntmps196
  go_wp2
  go_ret
  exact ⟨rfl, rfl⟩

theorem ready_nil (w : World) : Calls Tryz.prog 133 #[.pointer none] w fun e w' => e = .returned (.int .i64 2) ∧ w = w' := by
  go_enter Tryz.func133, Tryz.ntmps133
  go_wp2_with fail
  refine (made_nil w).mono ?_
  rintro e w1 ⟨rfl, rfl⟩
  go_wp2
  go_ret
  exact ⟨rfl, rfl⟩
theorem ready_no (h2 : w.cell? ⟨b, 2, none⟩ = some (.int .i64 0)) : Calls Tryz.prog 133 #[.pointer (some ⟨b, 0, none⟩)] w fun e w' => e = .returned (.int .i64 2) ∧ w = w' := by
  go_enter Tryz.func133, Tryz.ntmps133
  go_wp2_with fail
  refine (made_no h2).mono ?_
  rintro e w1 ⟨rfl, rfl⟩
  go_wp2
  go_ret
  exact ⟨rfl, rfl⟩
theorem ready_down {n : Int} (h1 : w.cell? ⟨b, 1, none⟩ = some (.bool true)) (h2 : w.cell? ⟨b, 2, none⟩ = some (.int .i64 n)) (hn : 0 < n) : Calls Tryz.prog 133 #[.pointer (some ⟨b, 0, none⟩)] w fun e w' => e = .returned (.int .i64 5) ∧ w = w' := by
  go_enter Tryz.func133, Tryz.ntmps133
  go_wp2_with fail
  refine (made_yes h2 hn).mono ?_
  rintro e w1 ⟨rfl, rfl⟩
  go_wp2
  go_ret
  exact ⟨rfl, rfl⟩
theorem ready_ok {n : Int} (h1 : w.cell? ⟨b, 1, none⟩ = some (.bool false)) (h2 : w.cell? ⟨b, 2, none⟩ = some (.int .i64 n)) (hn : 0 < n) : Calls Tryz.prog 133 #[.pointer (some ⟨b, 0, none⟩)] w fun e w' => e = .returned (.int .i64 0) ∧ w = w' := by
  go_enter Tryz.func133, Tryz.ntmps133
  go_wp2_with fail
  refine (made_yes h2 hn).mono ?_
  rintro e w1 ⟨rfl, rfl⟩
  go_wp2
  go_ret
  exact ⟨rfl, rfl⟩

theorem hasDev_any {n : Int} (i : Int) (h2 : w.cell? ⟨b, 2, none⟩ = some (.int .i64 n)) : Calls Tryz.prog 134 #[.pointer (some ⟨b, 0, none⟩), .int .i64 i] w fun e w' => e = .returned (.bool (decide (0 ≤ i ∧ i < n))) ∧ w = w' := by
  by_cases h0 : 0 ≤ i
  · have k0 : decide (0 ≤ i) = true := by simpa using h0
    have e : decide (0 ≤ i ∧ i < n) = decide (i < n) := by simp [h0]
    rw [e]
    generalize hq : decide (i < n) = q
    clear h0 e
    cases q
    · go_enter Tryz.func134, Tryz.ntmps134
      go_wp2
      go_ret
      exact ⟨rfl, rfl⟩
    · go_enter Tryz.func134, Tryz.ntmps134
      go_wp2
      go_ret
      exact ⟨rfl, rfl⟩
  · have k0 : decide (0 ≤ i) = false := by simpa using h0
    have e : decide (0 ≤ i ∧ i < n) = false := by simp [h0]
    rw [e]
    clear h0 e
    go_enter Tryz.func134, Tryz.ntmps134
    go_wp2
    go_ret
    exact ⟨rfl, rfl⟩

theorem blows_yes (h0 : w.cell? ⟨b, 0, none⟩ = some (.int .i64 0)) (h1 : w.cell? ⟨b, 1, none⟩ = some (.bool false)) (f1 : w.frozen? ⟨b, 1, none⟩ = false) :
    Calls Tryz.prog 193 #[.pointer (some ⟨b, 0, none⟩)] w fun e w' => e = .returned (.bool true) ∧ w' = w.setCell ⟨b, 1, none⟩ (.bool true) := by
  go_enter Tryz.func193, Tryz.ntmps193
  go_wp2
  go_ret
  exact ⟨rfl, rfl⟩
theorem blows_less {k : Nat} (hk : (k : Int) + 1 ≤ 9223372036854775807) (h0 : w.cell? ⟨b, 0, none⟩ = some (.int .i64 ((k : Int) + 1))) (h1 : w.cell? ⟨b, 1, none⟩ = some (.bool false)) (f0 : w.frozen? ⟨b, 0, none⟩ = false) :
    Calls Tryz.prog 193 #[.pointer (some ⟨b, 0, none⟩)] w fun e w' => e = .returned (.bool false) ∧ w' = w.setCell ⟨b, 0, none⟩ (.int .i64 (k : Int)) := by
  have e0 : ((k : Int) + 1 == 0) = false := by simp; omega
  have e1 : decide ((0 : Int) < (k : Int) + 1) = true := by simp
  have e2 : wrap64 ((k : Int) + 1 - 1) = k := by unfold wrap64; omega
  go_enter Tryz.func193, Tryz.ntmps193
  go_wp2
  go_ret
  exact ⟨rfl, rfl⟩
theorem blows_none {left : Int} (hl : left < 0) (h0 : w.cell? ⟨b, 0, none⟩ = some (.int .i64 left)) (h1 : w.cell? ⟨b, 1, none⟩ = some (.bool false)) :
    Calls Tryz.prog 193 #[.pointer (some ⟨b, 0, none⟩)] w fun e w' => e = .returned (.bool false) ∧ w' = w := by
  have e0 : (left == 0) = false := by simp; omega
  have e1 : decide ((0 : Int) < left) = false := by simp; omega
  go_enter Tryz.func193, Tryz.ntmps193
  go_wp2
  go_ret
  exact ⟨rfl, rfl⟩
end

/-- A call that only reads, at a disk. -/
theorem DAt.parts {w : World} {F : Nat → Prop} {p : Addr} {S : DS} (h : DAt w F p S) : ∃ b sb fb left pv sN fN sf ff, p = ⟨b, 0, none⟩ ∧ w.rowIs b 125 7 (diskRow left S.down S.n sb fb pv S.writes) ∧ Rest w F sb fb pv S.n S.safe S.last S.pend sN fN sf ff ∧ ArmIs left S.arm ∧ S.Ok ∧ (∀ i : Nat, i < S.n → ((ff i).isSome = true ↔ i ∈ S.pend)) ∧ (sN + fN ≤ S.writes ∧ S.pend.length ≤ fN ∧ S.writes ≤ 9223372036854775807) ∧ F b ∧ (∀ k, F k → k < w.heap.size) ∧
    w.cell? ⟨b, 0, none⟩ = some (.int .i64 left) ∧ w.cell? ⟨b, 1, none⟩ = some (.bool S.down) ∧ w.cell? ⟨b, 2, none⟩ = some (.int .i64 S.n) ∧ w.cell? ⟨b, 3, none⟩ = some (.map (some sb)) ∧ w.cell? ⟨b, 4, none⟩ = some (.map (some fb)) ∧ w.cell? ⟨b, 5, none⟩ = some pv ∧ w.cell? ⟨b, 6, none⟩ = some (.int .i64 S.writes) := by
  obtain ⟨b, sb, fb, left, pv, sN, fN, sf, ff, e, hrow, rest⟩ := h
  obtain ⟨h1, h2, h3, h4, h5, h6, h7⟩ := rest
  exact ⟨b, sb, fb, left, pv, sN, fN, sf, ff, e, hrow, h1, h2, h3, h4, h5, h6, h7, hrow.cell (i := 0) (by decide), hrow.cell (i := 1) (by decide), hrow.cell (i := 2) (by decide), hrow.cell (i := 3) (by decide), hrow.cell (i := 4) (by decide), hrow.cell (i := 5) (by decide), hrow.cell (i := 6) (by decide)⟩

theorem size_same (w : World) (F : Nat → Prop) (p : Addr) (S : DS) (h : DAt w F p S) : Calls Tryz.prog 142 #[.pointer (some p)] w fun e w' => e = .returned (.int .i64 (S.n : Int)) ∧ w' = w := by
  obtain ⟨b, sb, fb, left, pv, sN, fN, sf, ff, rfl, hrow, hrest, harm, hok, hdom, hcnt, hFb, hlt, c0, c1, c2, c3, c4, c5, c6⟩ := h.parts
  have hn : (0 : Int) < (S.n : Int) := by have := hok.size; omega
  go_enter Tryz.func142, Tryz.ntmps142
  go_wp2_with fail
  refine (made_yes c2 hn).mono ?_
  rintro e w1 ⟨rfl, rfl⟩
  go_wp2
  go_ret
  exact ⟨rfl, rfl⟩
theorem size_dev (w : World) (F : Nat → Prop) (p : Addr) (S : DS) (h : DAt w F p S) : Calls Tryz.prog 142 #[.pointer (some p)] w fun e w' => e = .returned (.int .i64 (S.n : Int)) ∧ Below w.heap.size w w' :=
  (size_same w F p S h).mono fun e w' ⟨h1, h2⟩ => ⟨h1, h2 ▸ Below.refl _ _⟩
theorem diskRow_set0 (left left' : Int) (down : Bool) (n sb fb : Nat) (pv : Value) (wr : Nat) : ∀ i, i < 7 → (fun j => if j = 0 then Value.int .i64 left' else diskRow left down n sb fb pv wr j) i = diskRow left' down n sb fb pv wr i := by
  intro i hi
  rcases (show i = 0 ∨ i = 1 ∨ i = 2 ∨ i = 3 ∨ i = 4 ∨ i = 5 ∨ i = 6 by omega) with rfl | rfl | rfl | rfl | rfl | rfl | rfl <;> rfl
theorem diskRow_set1 (left : Int) (down down' : Bool) (n sb fb : Nat) (pv : Value) (wr : Nat) : ∀ i, i < 7 → (fun j => if j = 1 then Value.bool down' else diskRow left down n sb fb pv wr j) i = diskRow left down' n sb fb pv wr i := by
  intro i hi
  rcases (show i = 0 ∨ i = 1 ∨ i = 2 ∨ i = 3 ∨ i = 4 ∨ i = 5 ∨ i = 6 by omega) with rfl | rfl | rfl | rfl | rfl | rfl | rfl <;> rfl
theorem diskRow_set5 (left : Int) (down : Bool) (n sb fb : Nat) (pv pv' : Value) (wr : Nat) : ∀ i, i < 7 → (fun j => if j = 5 then pv' else diskRow left down n sb fb pv wr j) i = diskRow left down n sb fb pv' wr i := by
  intro i hi
  rcases (show i = 0 ∨ i = 1 ∨ i = 2 ∨ i = 3 ∨ i = 4 ∨ i = 5 ∨ i = 6 by omega) with rfl | rfl | rfl | rfl | rfl | rfl | rfl <;> rfl
theorem diskRow_set6 (left : Int) (down : Bool) (n sb fb : Nat) (pv : Value) (wr wr' : Nat) : ∀ i, i < 7 → (fun j => if j = 6 then Value.int .i64 wr' else diskRow left down n sb fb pv wr j) i = diskRow left down n sb fb pv wr' i := by
  intro i hi
  rcases (show i = 0 ∨ i = 1 ∨ i = 2 ∨ i = 3 ∨ i = 4 ∨ i = 5 ∨ i = 6 by omega) with rfl | rfl | rfl | rfl | rfl | rfl | rfl <;> rfl

/-- A store into the disk's own block leaves the rest. -/
theorem Rest.setCell {w : World} {F : Nat → Prop} {b sb fb : Nat} {pv : Value} {n : Nat} {safe last : Nat → List Int} {pl : List Nat} {sN fN : Nat} {sf ff : Int → Option Value} {f : Nat → Value} (h : Rest w F sb fb pv n safe last pl sN fN sf ff) (hrow : w.rowIs b 125 7 f) (o : Nat) (v : Value) : Rest (w.setCell ⟨b, o, none⟩ v) F sb fb pv n safe last pl sN fN sf ff :=
  h.keep (fun _ h _ => h) (fun k _ hk hne => (grown_setCell w b o v).block k hk (fun e => by
    obtain ⟨c, hb, _⟩ := hrow
    have : k = b := by injection e
    subst this
    exact hne c hb))
/-- What was there stands: the rest too. -/
theorem Rest.below {w w' : World} {F : Nat → Prop} {sb fb : Nat} {pv : Value} {n : Nat} {safe last : Nat → List Int} {pl : List Nat} {sN fN : Nat} {sf ff : Int → Option Value} (h : Rest w F sb fb pv n safe last pl sN fN sf ff) (hb : Below w.heap.size w w') : Rest w' F sb fb pv n safe last pl sN fN sf ff :=
  h.keep (fun _ h _ => h) (fun k _ hk _ => hb.block k hk)

end Go.Proofs.YtinhdimalhfgkaaGreatDoor

/-
  disk.New by contract. No condition.
-/
namespace Go.Proofs.YtinhdimalhfgkaaGreatDoor
open Go.RowKit
set_option maxRecDepth 100000
set_option linter.unusedVariables false

set_option maxHeartbeats 400000 in
theorem new_no (n : Int) (w : World) (h : ¬ (3 ≤ n ∧ n ≤ 65536)) : Calls Tryz.prog 24 #[.int .i64 n] w fun e w' => e = .returned (.tuple #[.pointer none, .int .i64 1]) ∧ w = w' := by
  by_cases h1 : n < 3
  · have k1 : decide (n < 3) = true := by simpa using h1
    clear h h1
    go_enter Tryz.func24, Tryz.ntmps24
    go_wp2
    go_ret2
    exact ⟨rfl, rfl⟩
  · have k1 : decide (n < 3) = false := by simpa using h1
    have k2 : decide ((65536 : Int) < n) = true := by simp; omega
    clear h h1
    go_enter Tryz.func24, Tryz.ntmps24
    go_wp2
    go_ret2
    exact ⟨rfl, rfl⟩

/-- A disk as New makes it. -/
theorem new_at (n : Nat) (w : World) (h1 : 3 ≤ n) (h2 : n ≤ 65536) : After (fun _ => False) w ((((w.alloc (.map #[] 0)).alloc (.map #[] 0))).alloc (.cells #[.int .i64 (-1), .bool false, .int .i64 (n : Int), .map (some w.heap.size), .map (some (w.heap.size + 1)), .slice none 0 0, .int .i64 0] 125)) ⟨w.heap.size + 2, 0, none⟩ (DS.new n) := by
  have s0 : (w.alloc (.map #[] 0)).heap.size = w.heap.size + 1 := by simp
  have s1 : ((w.alloc (.map #[] 0)).alloc (.map #[] 0)).heap.size = w.heap.size + 2 := by simp
  generalize hw1 : w.alloc (.map #[] 0) = w1 at *
  generalize hw2 : w1.alloc (.map #[] 0) = w2 at *
  have m1 : IMap w1 w.heap.size 0 (fun _ => none) := by rw [← hw1]; exact IMap.made w
  have m1' : IMap w2 w.heap.size 0 (fun _ => none) := m1.of_block (by rw [← hw2]; exact heap_alloc_old _ _ (by omega))
  have m2 : IMap w2 (w.heap.size + 1) 0 (fun _ => none) := by rw [← hw2, ← s0]; exact IMap.made w1
  have b01 : Below w.heap.size w w2 := by
    rw [← hw2, ← hw1]
    exact ((Below.refl _ _).alloc (Nat.le_refl _) _).alloc (by simp) _
  have b02 := b01.alloc (o := .cells #[.int .i64 (-1), .bool false, .int .i64 (n : Int), .map (some w.heap.size), .map (some (w.heap.size + 1)), .slice none 0 0, .int .i64 0] 125) (by omega)
  rw [← s1]
  have hrest : Rest w2 (FN (fun _ => False) w) w.heap.size (w.heap.size + 1) (.slice none 0 0) (DS.new n).n (DS.new n).safe (DS.new n).last (DS.new n).pend 0 0 (fun _ => none) (fun _ => none) :=
    ⟨m1', m2, by omega, ⟨rfl, .inl ⟨rfl, rfl⟩⟩, fun i _ => rfl, (fun i _ v hv => by cases hv), .inr (Nat.le_refl _), .inr (by omega), fun g hg => by cases hg⟩
  refine After.mk' (left := -1) ?_ (hrest.keep (fun _ h _ => h) (fun k _ hk _ => heap_alloc_old _ _ hk)) ⟨by omega, .inl ⟨by omega, rfl⟩⟩ (DS.new_ok ⟨h1, h2⟩) (fun i _ => by simp [DS.new]) ⟨Nat.le_refl _, Nat.le_refl _, Nat.zero_le _⟩ (.inr (by omega)) (Touch.of_below b02)
  refine ⟨_, heap_alloc_new _ _, rfl, fun i hi => ?_⟩
  rcases (show i = 0 ∨ i = 1 ∨ i = 2 ∨ i = 3 ∨ i = 4 ∨ i = 5 ∨ i = 6 by omega) with rfl | rfl | rfl | rfl | rfl | rfl | rfl <;> rfl

set_option maxHeartbeats 400000 in
theorem new_yes (n : Nat) (w : World) (h1 : 3 ≤ n) (h2 : n ≤ 65536) : Calls Tryz.prog 24 #[.int .i64 n] w fun e w' => ∃ p : Addr, e = .returned (.tuple #[.pointer (some p), .int .i64 0]) ∧ After (fun _ => False) w w' p (DS.new n) := by
  have hmm := @run_makeMap Tryz.prog
  have k1 : decide ((n : Int) < 3) = false := by simp; omega
  have k2 : decide ((65536 : Int) < (n : Int)) = false := by simp; omega
  have HE := Lib.hid (new_at n w h1 h2)
  go_enter Tryz.func24, Tryz.ntmps24
  go_wp2
  go_ret2
  exact ⟨_, rfl, HE.out⟩

end Go.Proofs.YtinhdimalhfgkaaGreatDoor

/-
  slices.Clone on bytes by contract, and the program's Read. Condition: fewer than 2^43 elements.
-/
namespace Go.Proofs.YtinhdimalhfgkaaGreatDoor
open Go.RowKit
set_option maxRecDepth 100000
set_option linter.unusedVariables false

set_option maxHeartbeats 400000 in
theorem CloneB_own {w : World} {B n : Nat} {A : Option Addr} {l : List Int} (c : Nat) (h : RB w B A n l) (hB : B ≤ w.heap.size) (hn : n ≤ 140737488355328) :
    Calls Tryz.prog 99 #[.slice A n c] w fun e w' => ∃ A' c', e = .returned (.slice A' n c') ∧ n ≤ c' ∧ w'.ownsRow w.heap.size 5 1 (.slice A' n c') n (l.map (Value.int .u8)) ∧ Below w.heap.size w w' := by
  have q22 : ∀ (w : World) (a : Option Addr) (n c n' c' : Nat), (binOp .eql 46 (.slice a n c) (.slice none n' c')).run Tryz.prog w = .ok (.bool a.isNone) w := fun w a n c n' c' => Lib.run_eql_slice_nil w _ _ a n c n' c' Tryz.underlying46
  rcases A with _ | ad
  · have hm : n = 0 := by
      rcases Nat.eq_zero_or_pos n with h0 | h0
      · exact h0
      · obtain ⟨b, off, e, _⟩ := h.at_ h0; cases e
    subst hm
    obtain rfl : l = [] := List.eq_nil_of_length_eq_zero h.len
    go_enter Tryz.func99, Tryz.ntmps99
    go_wp2
    go_ret
    exact ⟨none, 0, rfl, Nat.le_refl _, World.ownsRow_nil _ _ _ _, Below.refl _ _⟩
  · go_enter Tryz.func99, Tryz.ntmps99
    go_wp2_with (at_builtin; refine wpList_append_bytes rfl _ _ rfl w.heap.size _ 0 [] rfl (World.ownsRow_made w #[] 0 (Nat.le_refl _) (Nat.zero_le _) rfl) B (some ad) n c l rfl (h.alloc hB _) (by omega) (by simp) ?_; intro v1 w1 hown1 _ hb1)
    simp only [Nat.zero_add, List.nil_append] at hown1
    obtain ⟨A', c', rfl, hc'⟩ := own_shape hown1
    go_ret
    exact ⟨A', c', rfl, hc', hown1, ((Below.refl w.heap.size w).alloc (Nat.le_refl _) _).trans hb1⟩

theorem zero_slice (w : World) : (zeroValue 46).run Tryz.prog w = .ok (.slice none 0 0) w := by kernel_rfl

theorem readE_down {S : DS} (i : Int) (h : S.down = true) : S.readE i = 5 ∧ S.readL i = [] := by
  have e : S.readE i = 5 := by simp [DS.readE, h]
  exact ⟨e, by simp [DS.readL, e]⟩
theorem readE_no {S : DS} {i : Int} (h : S.down = false) (hi : ¬ S.has i) : S.readE i = 1 ∧ S.readL i = [] := by
  have e : S.readE i = 1 := by simp [DS.readE, h, hi]
  exact ⟨e, by simp [DS.readL, e]⟩
theorem readE_yes {S : DS} {i : Int} (h : S.down = false) (hi : S.has i) : S.readE i = 0 ∧ S.readL i = S.last i.toNat := by
  have e : S.readE i = 0 := by simp [DS.readE, h, hi]
  exact ⟨e, by simp [DS.readL, e]⟩

theorem made_nought {w : World} {base g : Nat} (h : w.ownsRow base 5 1 (.slice (some ⟨g, 0, none⟩) 256 256) 256 (madeCells (Value.int .u8 0).cells (256 * 1)).toList) : RB w w.heap.size (some ⟨g, 0, none⟩) 256 nought := by
  refine RB.of_own (base := base) (e := 5) (c := 256) ?_ nought_ok.2
  rw [show (Value.int .u8 0).cells = #[Value.int .u8 0] from rfl, toList_madeCells_one, Nat.mul_one] at h
  rw [nought, List.map_replicate]
  exact h

theorem own_from0 {w : World} {base e n c : Nat} {A : Option Addr} {xs : List Value} (h : w.ownsRow base e 1 (.slice A n c) n xs) : ∀ a, A = some a → ∃ g, a = ⟨g, 0, none⟩ ∧ base ≤ g := by
  intro a ha
  subst ha
  rcases h.2 with ⟨e1, _⟩ | ⟨g, cap, cur, e1, hb, _⟩
  · cases e1
  · cases e1; exact ⟨g, rfl, hb⟩

set_option maxHeartbeats 800000 in
theorem read_fresh (i : Int) (w : World) (F : Nat → Prop) (p : Addr) (S : DS) (h : DAt w F p S) : Calls Tryz.prog 79 #[.pointer (some p), .int .i64 i] w fun e w' => ∃ (A : Option Addr) (n c : Nat), e = .returned (.tuple #[.slice A n c, .int .i64 (S.readE i)]) ∧ n ≤ c ∧ RB w' w'.heap.size A n (S.readL i) ∧ Below w.heap.size w w' ∧ ∀ a, A = some a → ∃ g, a = ⟨g, 0, none⟩ ∧ w.heap.size ≤ g := by
  obtain ⟨b, sb, fb, left, pv, sN, fN, sf, ff, rfl, hrow, hrest, harm, hok, hdom, hcnt, hFb, hlt, c0, c1, c2, c3, c4, c5, c6⟩ := h.parts
  have hn : (0 : Int) < (S.n : Int) := by have := hok.size; omega
  have hnm := hok.size
  by_cases hd : S.down = true
  · obtain ⟨e1, e2⟩ := readE_down i hd
    rw [hd] at c1
    rw [e1, e2]
    clear h hrow hrest hdom hd e1 e2 hlt
    go_enter Tryz.func79, Tryz.ntmps79
    go_wp2_with fail
    refine (ready_down c1 c2 hn).mono ?_
    rintro e w1 ⟨rfl, rfl⟩
    go_wp2
    go_ret2
    exact ⟨none, 0, 0, rfl, Nat.le_refl _, RB.nil_, Below.refl _ _, fun a ha => by cases ha⟩
  have hd' : S.down = false := by simpa using hd
  rw [hd'] at c1
  by_cases hi : S.has i
  · obtain ⟨e1, e2⟩ := readE_yes hd' hi
    rw [e1, e2]
    unfold DS.has at hi
    obtain ⟨k, rfl⟩ := Int.eq_ofNat_of_zero_le hi.1
    have hk : k < S.n := by omega
    have HH := Lib.hid (show decide (0 ≤ (k : Int) ∧ (k : Int) < (S.n : Int)) = true by simpa using hi)
    rw [Int.toNat_natCast]
    have hki : -9223372036854775808 ≤ (k : Int) ∧ (k : Int) ≤ 9223372036854775807 := by omega
    have q1 := hrest.freshM.look Tryz.underlying123 (zero_slice w) hki
    have q2 := hrest.safeM.look Tryz.underlying123 (zero_slice w) hki
    have hbytes := hok.lastBytes k
    have hfr := hrest.freshC k hk
    have hsf := hrest.safeC k hk
    have hdk := hdom k hk
    have hsame := hok.same k
    clear h hrow hrest hdom hd e1 e2 hlt hok
    rcases hff : ff (k : Int) with _ | v
    · rw [hff] at q1 hdk
      simp only [Option.getD_none, Option.isSome_none] at q1
      have hl : S.last k = S.safe k := hsame (fun hm => by simpa using hdk.2 hm)
      rw [hl] at hbytes ⊢
      clear hl hsame hdk hfr
      rcases hsv : sf (k : Int) with _ | v
      · rw [hsv] at q2 hsf
        simp only [Option.getD_none, Option.isSome_none] at q2
        obtain ⟨i0, hi', hz0, hz1, hz2⟩ := info_parts info_u8
        rw [show S.safe k = nought from hsf]
        clear hsf
        go_enter Tryz.func79, Tryz.ntmps79
        go_wp2_with fail
        refine (ready_ok c1 c2 hn).mono ?_
        rintro e w1 ⟨rfl, rfl⟩
        go_wp2_with fail
        refine (hasDev_any _ c2).mono ?_
        rw [HH.out]
        rintro e w1 ⟨rfl, rfl⟩
        go_wp2_with (refine wpList_make_full w rfl _ _ 46 rfl w.heap.size 5 i0 (.int .u8 0) 1 Tryz.underlying46 hi' hz0 hz1 .i64 .i64 _ _ 256 rfl rfl rfl rfl (by rw [hz2]; decide) (by decide) (Nat.le_refl _) ?_; intro w1 hown1 hg1; have hb1 : Below w.heap.size w w1 := (Below.refl _ _).grown hg1 (Nat.le_refl _) (by simp); have hr1 := made_nought hown1; clear hown1 hg1)
        go_ret2
        exact ⟨_, 256, 256, rfl, Nat.le_refl _, hr1, hb1, fun a ha => by cases ha; exact ⟨_, rfl, Nat.le_refl _⟩⟩
      · rw [hsv] at q2 hsf
        obtain ⟨g, c, rfl, hc, hr⟩ := Cont.rb hsf hbytes
        simp only [Option.getD_some, Option.isSome_some] at q2
        clear hsf
        go_enter Tryz.func79, Tryz.ntmps79
        go_wp2_with fail
        refine (ready_ok c1 c2 hn).mono ?_
        rintro e w1 ⟨rfl, rfl⟩
        go_wp2_with fail
        refine (hasDev_any _ c2).mono ?_
        rw [HH.out]
        rintro e w1 ⟨rfl, rfl⟩
        go_wp2_with fail
        refine (CloneB_own c hr (Nat.le_refl _) (by decide)).mono ?_
        rintro e w1 ⟨A', c', rfl, hc', hown, hb⟩
        go_wp2
        go_ret2
        exact ⟨_, _, _, rfl, hc', RB.of_own hown hbytes.2, hb, own_from0 hown⟩
    · rw [hff] at q1
      obtain ⟨g, c, rfl, hc, hr⟩ := Cont.rb (hfr v hff) hbytes
      simp only [Option.getD_some, Option.isSome_some] at q1
      clear hsf hfr hdk hsame q2
      go_enter Tryz.func79, Tryz.ntmps79
      go_wp2_with fail
      refine (ready_ok c1 c2 hn).mono ?_
      rintro e w1 ⟨rfl, rfl⟩
      go_wp2_with fail
      refine (hasDev_any _ c2).mono ?_
      rw [HH.out]
      rintro e w1 ⟨rfl, rfl⟩
      go_wp2_with fail
      refine (CloneB_own c hr (Nat.le_refl _) (by decide)).mono ?_
      rintro e w1 ⟨A', c', rfl, hc', hown, hb⟩
      go_wp2
      go_ret2
      exact ⟨_, _, _, rfl, hc', RB.of_own hown hbytes.2, hb, own_from0 hown⟩
  · obtain ⟨e1, e2⟩ := readE_no hd' hi
    rw [e1, e2]
    have HH := Lib.hid (show decide (0 ≤ i ∧ i < (S.n : Int)) = false by simpa [DS.has] using hi)
    clear h hrow hrest hdom hd e1 e2 hlt hi
    go_enter Tryz.func79, Tryz.ntmps79
    go_wp2_with fail
    refine (ready_ok c1 c2 hn).mono ?_
    rintro e w1 ⟨rfl, rfl⟩
    go_wp2_with fail
    refine (hasDev_any _ c2).mono ?_
    rw [HH.out]
    rintro e w1 ⟨rfl, rfl⟩
    go_wp2
    go_ret2
    exact ⟨none, 0, 0, rfl, Nat.le_refl _, RB.nil_, Below.refl _ _, fun a ha => by cases ha⟩

theorem read_dev (i : Int) (w : World) (F : Nat → Prop) (p : Addr) (S : DS) (h : DAt w F p S) : Calls Tryz.prog 79 #[.pointer (some p), .int .i64 i] w fun e w' => ∃ (A : Option Addr) (n c : Nat), e = .returned (.tuple #[.slice A n c, .int .i64 (S.readE i)]) ∧ n ≤ c ∧ RB w' w'.heap.size A n (S.readL i) ∧ Below w.heap.size w w' :=
  (read_fresh i w F p S h).mono fun e w' ⟨A, n, c, h1, h2, h3, h4, _⟩ => ⟨A, n, c, h1, h2, h3, h4⟩
/-- A sector that is there: its bytes lie in a new block. -/
theorem read_at (i : Int) (w : World) (F : Nat → Prop) (p : Addr) (S : DS) (h : DAt w F p S) (hr : S.readE i = 0) : Calls Tryz.prog 79 #[.pointer (some p), .int .i64 i] w fun e w' => ∃ g c, e = .returned (.tuple #[.slice (some ⟨g, 0, none⟩) 256 c, .int .i64 0]) ∧ 256 ≤ c ∧ w.heap.size ≤ g ∧ RB w' w'.heap.size (some ⟨g, 0, none⟩) 256 (S.last i.toNat) ∧ Below w.heap.size w w' := by
  have hok : S.Ok := by
    obtain ⟨b, sb, fb, left, pv, sN, fN, sf, ff, rfl, hrow, hrest, harm, hok, rest⟩ := h
    exact hok
  refine (read_fresh i w F p S h).mono ?_
  rintro e w' ⟨A, n, c, rfl, hc, hrb, hb, hA⟩
  rw [hr]
  have e2 : S.readL i = S.last i.toNat := by unfold DS.readL; rw [if_pos hr]
  rw [e2] at hrb
  have hn : n = 256 := by rw [← hrb.len]; exact (hok.lastBytes _).1
  subst hn
  obtain ⟨b, off, e3, _⟩ := hrb.at_ (by decide)
  obtain ⟨g, e4, hg⟩ := hA _ e3
  cases e4
  subst e3
  exact ⟨b, c, rfl, hc, hg, hrb, hb⟩

theorem pend_reads {w : World} {pv : Value} {S : DS} (hok : S.Ok) (hp : w.ownsRow 0 3 1 pv S.pend.length ((S.pend.map Int.ofNat).map (Value.int .i64))) : ∃ A c, pv = .slice A S.pend.length c ∧ S.pend.length ≤ c ∧ RI w w.heap.size A S.pend.length S.pending := by
  obtain ⟨A, c, rfl, hc⟩ := int_own_shape hp
  have hsz := hok.size
  exact ⟨A, c, rfl, hc, (RI.of_own hp (fun x hx => by
    obtain ⟨k, hk, rfl⟩ := List.mem_map.1 hx
    have := hok.pendLt k hk
    have e : Int.ofNat k = (k : Int) := rfl
    rw [e]
    omega)).1⟩

theorem pend_len_le {S : DS} (h : S.Ok) : S.pend.length ≤ S.n := nodup_lt S.n S.pend h.pendNodup h.pendLt

end Go.Proofs.YtinhdimalhfgkaaGreatDoor

/-
  The program's Write by contract. Condition: fewer than 2^63 - 1 writes.
-/
namespace Go.Proofs.YtinhdimalhfgkaaGreatDoor
open Go.RowKit
set_option maxRecDepth 100000
set_option linter.unusedVariables false

theorem wpList_append_pend {w : World} {ops : Array Oper} {rest : List Oper} {o : Oper} {a : Act} {Q : Exit → Act → World → Prop} (hgd : o.guard = none) (s x : Operand)
    (ho : o.op = .call { callee := .builtin .append, args := #[s, x], argTypes := #[39, 39] })
    (v : Value) (n : Nat) (xs : List Int) (hs : a.eval s = v) (b : Nat) (z : Int) (T : TypeId) (hx : a.eval x = .slice (some ⟨b, 0, none⟩) 1 1)
    (hown : w.ownsRow 0 3 1 v n (xs.map (Value.int .i64))) (hb : w.heap[b]? = some (.cells #[.int .i64 z] T)) (h63 : n ≤ 8796093022207)
    (h : ∀ A' c' w', w'.ownsRow 0 3 1 (.slice A' (n + 1) c') (n + 1) ((xs ++ [z]).map (Value.int .i64)) → w.grownBy w' v.ownBlock → ((Value.slice A' (n + 1) c').ownBlock = v.ownBlock ∨ (Value.slice A' (n + 1) c').ownBlock = some w.heap.size) → wpList Tryz.prog ops Q rest (a.put o.dst (.slice A' (n + 1) c')) w') : wpList Tryz.prog ops Q (o :: rest) a w := by
  obtain ⟨i0, hi, hz0, hz1, hz2⟩ := info_parts info_int
  refine wpList_append_own_at w hgd s x 39 ho 0 3 i0 (.int .i64 0) 1 8 Tryz.underlying39 hi hz0 hz1 hz2 rfl (by decide) v n _ hs hown ⟨b, 0, none⟩ 1 1 [.int .i64 z] hx rfl (World.news_of_block (cs := #[.int .i64 z]) hb) (fun u hu => by obtain rfl := List.mem_singleton.1 hu; rfl) (by unfold maxLen; omega) (by omega) (Nat.zero_le _) ?_
  intro v' w' h1 h2 _ h4
  obtain ⟨A', c', rfl, _⟩ := int_own_shape h1
  exact h A' c' w' (by simpa using h1) h2 h4

section
variable {w w4 w5 : World} {F : Nat → Prop} {b sb fb : Nat} {left : Int} {pv : Value} {sN fN : Nat} {sf ff : Int → Option Value} {S : DS}

/-- The end of a write: the map's store and the count. -/
theorem write_end {pl : List Nat} {i : Nat} {l : List Int} {v : Value} (hok : S.Ok) (hd : S.down = false) (hi : i < S.n) (hl : l.length = 256 ∧ AllBytes l) (hpl : pl = if i ∈ S.pend then S.pend else S.pend ++ [i]) (hw : S.writes ≤ 9223372036854775806)
    (hrow : w4.rowIs b 125 7 (diskRow left false S.n sb fb pv S.writes)) (hrest : Rest w4 (FN F w) sb fb pv S.n S.safe S.last pl sN fN sf ff) (harm : ArmIs left (S.arm.map (· - 1))) (hdom : ∀ i : Nat, i < S.n → ((ff i).isSome = true ↔ i ∈ S.pend)) (hcnt : sN + fN ≤ S.writes ∧ S.pend.length ≤ fN) (hFb : F b) (ht : Touch F w w4)
    (hb5 : Below w4.heap.size w4 w5) (hown : w5.ownsRow w4.heap.size 5 1 v 256 (l.map (Value.int .u8))) :
    ∃ w6, (Instr.mapUpdate 123 (.map (some fb)) (.int .i64 (i : Int)) v).run Tryz.prog w5 = .ok () w6 ∧ w5.cell? ⟨b, 4, none⟩ = some (.map (some fb)) ∧ w6.cell? ⟨b, 6, none⟩ = some (.int .i64 (S.writes : Int)) ∧ w6.frozen? ⟨b, 6, none⟩ = false ∧
      Hid (After F w (w6.setCell ⟨b, 6, none⟩ (.int .i64 ((S.writes : Int) + 1))) ⟨b, 0, none⟩ (S.put i l)) := by
  have hrest5 := hrest.below hb5
  have hrow5 := hrow.of_block (hb5.block _ hrow.lt)
  have hsz := hok.size
  obtain ⟨w6, hrun, him, hgr⟩ := hrest5.freshM.store Tryz.underlying123 (i := (i : Int)) (by unfold maxLen; omega) (by omega) v
  have hne : b ≠ fb := by
    obtain ⟨es, c, h1⟩ := hrest5.freshM.block
    obtain ⟨cs, h2, _⟩ := hrow5
    intro e
    rw [e, h1] at h2
    cases h2
  have hrow6 := hrow5.of_block (hgr.block b hrow5.lt (fun e => hne (by injection e)))
  have hC : Cont w5 (FN F w) v l := Cont.of_own hown (fun k hk => .inr (Nat.le_trans ht.size hk))
  have hrest6 : Rest w6 (FN F w) sb fb pv S.n S.safe (S.put i l).last pl sN (fN + 1) sf _ := hrest5.freshed hgr him (last' := (S.put i l).last) (fun j hj u hu => by
    have e1 : (S.put i l).last j = if j = i then l else S.last j := rfl
    by_cases e : j = i
    · subst e
      rw [if_pos rfl] at e1
      rw [if_pos rfl] at hu
      obtain rfl : v = u := by injection hu
      exact .inr (by rw [e1]; exact hC)
    · rw [if_neg e] at e1
      rw [if_neg (by omega)] at hu
      exact .inl ⟨hu, e1⟩)
  have hputok : (S.put i l).Ok := DS.put_ok hok hi hl
  have hpl' : pl = (S.put i l).pend := hpl
  refine ⟨w6, hrun, hrow5.cell (i := 4) (by decide), hrow6.cell (i := 6) (by decide), hrow6.frozen 6, Lib.hid ?_⟩
  have hrow7 := (hrow6.set 6 (.int .i64 ((S.writes : Int) + 1))).congr (diskRow_set6 _ _ _ _ _ _ _ (S.writes + 1))
  have ht4 := ht.grow (grown_below hb5) (fun x e => by cases e)
  have ht6 := ht4.grow hgr (fun x e => by injection e with e; rw [← e]; exact hrest.Ff)
  have ht7 := ht6.grow (grown_setCell w6 b 6 (.int .i64 ((S.writes : Int) + 1))) (fun x e => by injection e with e; rw [← e]; exact .inl hFb)
  rw [hpl'] at hrest6
  refine After.mk' (S := S.put i l) (left := left) ?_ (hrest6.setCell hrow6 6 _) harm hputok (fun j hj => ?_) ⟨?_, ?_, ?_⟩ (.inl hFb) ht7
  · have e1 : (S.put i l).down = false := hd
    rw [e1]
    exact hrow7
  · show (if (j : Int) = (i : Int) then some v else ff j).isSome = true ↔ j ∈ (if i ∈ S.pend then S.pend else S.pend ++ [i])
    have hdj := hdom j hj
    by_cases e : j = i
    · subst e
      rw [if_pos rfl]
      by_cases hm : j ∈ S.pend <;> simp [hm]
    · rw [if_neg (by omega), hdj]
      by_cases hm : i ∈ S.pend <;> simp [hm, e]
  · show sN + (fN + 1) ≤ S.writes + 1
    omega
  · show (if i ∈ S.pend then S.pend else S.pend ++ [i]).length ≤ fN + 1
    split
    · omega
    · rw [List.length_append]; simp; omega
  · show S.writes + 1 ≤ 9223372036854775807
    omega

/-- The fuse lets a write through. -/
theorem blows_go (hrow : w.rowIs b 125 7 (diskRow left false S.n sb fb pv S.writes)) (harm : ArmIs left S.arm) (hne : S.arm ≠ some 0) :
    Calls Tryz.prog 193 #[.pointer (some ⟨b, 0, none⟩)] w fun e w' => ∃ left', e = .returned (.bool false) ∧ w'.rowIs b 125 7 (diskRow left' false S.n sb fb pv S.writes) ∧ ArmIs left' (S.arm.map (· - 1)) ∧ w.grownBy w' (some b) ∧ w'.heap.size = w.heap.size := by
  have c0 : w.cell? ⟨b, 0, none⟩ = some (.int .i64 left) := hrow.cell (i := 0) (by decide)
  have c1 : w.cell? ⟨b, 1, none⟩ = some (.bool false) := hrow.cell (i := 1) (by decide)
  obtain ⟨hr, h⟩ := harm
  rcases h with ⟨hl, hn⟩ | ⟨k, hk, ha⟩
  · refine (blows_none hl c0 c1).mono ?_
    rintro e w' ⟨rfl, rfl⟩
    exact ⟨left, rfl, hrow, ⟨hr, .inl ⟨hl, by rw [hn]; rfl⟩⟩, (World.grownBy.refl _ _), rfl⟩
  · rcases k with _ | k
    · exact absurd ha hne
    · have hk' : left = (k : Int) + 1 := by rw [hk]; omega
      rw [hk'] at c0
      refine (blows_less (by omega) c0 c1 (hrow.frozen 0)).mono ?_
      rintro e w' ⟨rfl, rfl⟩
      exact ⟨k, rfl, (hrow.set 0 (.int .i64 (k : Int))).congr (diskRow_set0 _ _ _ _ _ _ _ _), ⟨by omega, .inr ⟨k, rfl, by rw [ha]; rfl⟩⟩, grown_setCell w b 0 _, by simp⟩
end

theorem writeE_yes {S : DS} {i : Nat} {l : List Int} (hd : S.down = false) (hi : i < S.n) (hl : l.length = 256) (ha : S.arm ≠ some 0) : S.writeE i l = 0 ∧ S.write i l = S.put i l := by
  have h : S.has (i : Int) := ⟨by omega, by omega⟩
  exact ⟨by simp [DS.writeE, hd, h, hl, ha], by simp [DS.write, hd, h, hl, ha]⟩
theorem writeE_blown {S : DS} {i : Nat} {l : List Int} (hd : S.down = false) (hi : i < S.n) (hl : l.length = 256) (ha : S.arm = some 0) : S.writeE i l = 5 ∧ S.write i l = { S with down := true } := by
  have h : S.has (i : Int) := ⟨by omega, by omega⟩
  exact ⟨by simp [DS.writeE, hd, h, hl, ha], by simp [DS.write, hd, h, hl, ha]⟩
theorem writeE_no {S : DS} {i : Int} {l : List Int} (hd : S.down = false) (h : ¬ (S.has i ∧ l.length = 256)) : S.writeE i l = 1 ∧ S.write i l = S := by
  exact ⟨by simp only [DS.writeE, hd]; rw [if_neg (by simp), if_pos h], by simp only [DS.write, hd]; rw [if_neg (by simp), if_pos h]⟩
theorem writeE_down {S : DS} {i : Int} {l : List Int} (hd : S.down = true) : S.writeE i l = 5 ∧ S.write i l = S := ⟨by simp [DS.writeE, hd], by simp [DS.write, hd]⟩

theorem After.same {F : Nat → Prop} {w : World} {p : Addr} {S : DS} (h : DAt w F p S) : After F w w p S := ⟨F, h, Touch.refl _ _, fun k hk => .inl hk⟩

end Go.Proofs.YtinhdimalhfgkaaGreatDoor
