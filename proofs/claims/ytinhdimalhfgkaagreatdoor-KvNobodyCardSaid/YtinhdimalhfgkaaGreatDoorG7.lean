/-
  The texts SecSaidB, RedoRA, DiskSaidB, IntApp, TwoRows joined. Conditions: those that each part says at its head.
-/
import Derived.Test.YtinhdimalhfgkaaGreatDoorG6
import Derived.Test.YtinhdimalhfgkaaGreatDoorG3
import Derived.Test.YtinhdimalhfgkaaGreatDoorG5
import Derived.Test.YtinhdimalhfgkaaGreatDoorG2
import Derived.Laws.AppendOwnNone
import Derived.Deep.AppendLies
import Derived.Maps.AppendAt

/-
  What the program's own Right, Pack and Unpack of sectors are to answer, as statements: proved in a text of its own, used by the law's walks. Condition: the table that crc.Step reads holds what the program's text lays in it.
-/
namespace Go.Proofs.YtinhdimalhfgkaaGreatDoor
open Go.RowKit
set_option maxRecDepth 100000
set_option linter.unusedVariables false

def SecRightSaid : Prop := ∀ (p s : Int) (w : World), Calls Tryz.prog 138 #[.int .i64 p, .int .i64 s] w fun e w' => e = .returned (.bool (secR p s)) ∧ w = w'
def PackSaid : Prop := ∀ (A : Option Addr) (n c B : Nat) (l : List Int) (p s : Int) (w : World), RB w B A n l → B ≤ w.heap.size → n ≤ c → n ≤ 140737488355000 → Tab w → 1 < w.heap.size →
  Calls Tryz.prog 130 #[.int .i64 p, .int .i64 s, .slice A n c] w fun e w' => ∃ v, e = .returned (.tuple #[v, .int .i64 (packR p s l).2]) ∧ w'.ownsRow w.heap.size 5 1 v (packR p s l).1.length ((packR p s l).1.map (Value.int .u8)) ∧ Below w.heap.size w w'
def UnpackSaid : Prop := ∀ (A : Option Addr) (n c B : Nat) (l : List Int) (w : World), RB w B A n l → B ≤ w.heap.size → n ≤ c → n ≤ 140737488355000 → Tab w → 1 < w.heap.size →
  Calls Tryz.prog 81 #[.slice A n c] w fun e w' => ∃ A' n' c', e = .returned (.tuple #[.int .i64 (unpackR l).1, .int .i64 (unpackR l).2.1, .slice A' n' c', .int .i64 (unpackR l).2.2.2]) ∧ n' ≤ c' ∧ RB w' w'.heap.size A' n' (unpackR l).2.2.1 ∧ Below w.heap.size w w'

/-- Noughts. -/
def zeros (n : Nat) : List Int := List.replicate n 0
theorem zeros_length (n : Nat) : (zeros n).length = n := List.length_replicate ..
theorem zeros_bytes (n : Nat) : AllBytes (zeros n) := fun x hx => by
  obtain rfl := (List.mem_replicate.1 hx).2
  decide
theorem RB.made {w : World} {base g n : Nat} (h : w.ownsRow base 5 1 (.slice (some ⟨g, 0, none⟩) n n) n (madeCells (Value.int .u8 0).cells (n * 1)).toList) : RB w w.heap.size (some ⟨g, 0, none⟩) n (zeros n) := by
  refine RB.of_own (base := base) (e := 5) (c := n) ?_ (zeros_bytes n)
  rw [show (Value.int .u8 0).cells = #[Value.int .u8 0] from rfl, toList_madeCells_one, Nat.mul_one] at h
  rw [zeros, List.map_replicate]
  exact h

end Go.Proofs.YtinhdimalhfgkaaGreatDoor

/-
  Contracts of the plain log's mark and Format over the plain disk. Conditions: a count and a seq that may stand in a sector; fewer than 2^63 - 1 writes.
-/
namespace Go.Proofs.YtinhdimalhfgkaaGreatDoor
open Go.RowKit
set_option maxRecDepth 100000
set_option linter.unusedVariables false

section
variable {w w1 w2 : World} {G G1 : Nat → Prop} {x : Addr} {S S1 S2 : DS}

theorem own_some {w : World} {base e n : Nat} {v : Value} {xs : List Value} (h : w.ownsRow base e 1 v n xs) (hn : 0 < n) : ∃ g c, v = .slice (some ⟨g, 0, none⟩) n c ∧ n ≤ c ∧ base ≤ g := by
  rcases h.2 with ⟨_, h0⟩ | ⟨g, cap, cur, rfl, hb, _, hc, _⟩
  · omega
  · exact ⟨g, cap, rfl, hc, hb⟩
theorem packR_sec {c s : Int} (h : secR c s = true) {l : List Int} (hl : l.length = 240) : (packR c s l).1 = secL c s l := by unfold packR; rw [if_pos ⟨h, hl⟩]
theorem markS_sec (S : DS) {c s : Int} (h : secR c s = true) : markS S c s = thenS (S.wr 0 (secL c s zpage)) DS.fl := by unfold markS; rw [packR_sec h zpage_ok.1]
theorem thenS_ok {r : Int × DS} {f : DS → Int × DS} (h : r.1 = 0) : thenS r f = f r.2 := if_pos h
theorem thenS_no {r : Int × DS} {f : DS → Int × DS} (h : r.1 ≠ 0) : thenS r f = r := if_neg h
theorem writeE_le (S : DS) (i : Int) (l : List Int) : 0 ≤ S.writeE i l ∧ S.writeE i l ≤ 5 := by
  unfold DS.writeE
  split
  · omega
  split
  · omega
  split <;> omega

end

end Go.Proofs.YtinhdimalhfgkaaGreatDoor

/-
  What the program's own disk is to answer (Pending is not asked: for seats that do not call it), as a statement over any way in which a disk lies in memory: proved in a text of its own, used by the laws' walks.
-/
namespace Go.Proofs.YtinhdimalhfgkaaGreatDoor
open Go.RowKit
set_option maxRecDepth 100000
set_option linter.unusedVariables false

/-- D w F p S: in w a disk S lies at p, in the blocks of F. -/
structure DiskApi (D : World → (Nat → Prop) → Addr → DS → Prop) : Prop where
  keep : ∀ (w w' : World) (F : Nat → Prop) (p : Addr) (S : DS), D w F p S → (∀ k, F k → w'.heap[k]? = w.heap[k]?) → D w' F p S
  lt : ∀ (w : World) (F : Nat → Prop) (p : Addr) (S : DS), D w F p S → ∀ k, F k → k < w.heap.size
  ok : ∀ (w : World) (F : Nat → Prop) (p : Addr) (S : DS), D w F p S → S.Ok
  new : ∀ (n : Int) (w : World), 3 ≤ n → n ≤ 65536 → Calls Tryz.prog 24 #[.int .i64 n] w fun e w' => ∃ (p : Addr) (F : Nat → Prop), e = .returned (.tuple #[.pointer (some p), .int .i64 0]) ∧ D w' F p (DS.new n.toNat) ∧ Below w.heap.size w w' ∧ ∀ k, F k → w.heap.size ≤ k
  newNo : ∀ (n : Int) (w : World), ¬ (3 ≤ n ∧ n ≤ 65536) → Calls Tryz.prog 24 #[.int .i64 n] w fun e w' => e = .returned (.tuple #[.pointer none, .int .i64 1]) ∧ w = w'
  read : ∀ (i : Int) (w : World) (F : Nat → Prop) (p : Addr) (S : DS), D w F p S → Calls Tryz.prog 79 #[.pointer (some p), .int .i64 i] w fun e w' => ∃ (A : Option Addr) (n c : Nat), e = .returned (.tuple #[.slice A n c, .int .i64 (S.readE i)]) ∧ n ≤ c ∧ RB w' w'.heap.size A n (S.readL i) ∧ Below w.heap.size w w'
  readAt : ∀ (i : Int) (w : World) (F : Nat → Prop) (p : Addr) (S : DS), D w F p S → S.readE i = 0 → Calls Tryz.prog 79 #[.pointer (some p), .int .i64 i] w fun e w' => ∃ g c, e = .returned (.tuple #[.slice (some ⟨g, 0, none⟩) 256 c, .int .i64 0]) ∧ 256 ≤ c ∧ w.heap.size ≤ g ∧ RB w' w'.heap.size (some ⟨g, 0, none⟩) 256 (S.last i.toNat) ∧ Below w.heap.size w w'
  write : ∀ (i : Int) (A : Option Addr) (n c B : Nat) (l : List Int) (w : World) (F : Nat → Prop) (p : Addr) (S : DS), D w F p S → RB w B A n l → n ≤ c → n ≤ 4096 → S.writes ≤ 9223372036854775806 → (∀ a, A = some a → ¬ F a.block) →
    Calls Tryz.prog 131 #[.pointer (some p), .int .i64 i, .slice A n c] w fun e w' => e = .returned (.int .i64 (S.writeE i l)) ∧ ∃ F' : Nat → Prop, D w' F' p (S.write i l) ∧ Touch F w w' ∧ ∀ k, F' k → F k ∨ w.heap.size ≤ k
  flush : ∀ (w : World) (F : Nat → Prop) (p : Addr) (S : DS), D w F p S → Calls Tryz.prog 132 #[.pointer (some p)] w fun e w' => e = .returned (.int .i64 S.flushE) ∧ ∃ F' : Nat → Prop, D w' F' p S.flush ∧ Touch F w w' ∧ ∀ k, F' k → F k ∨ w.heap.size ≤ k
  sizes : ∀ (w : World) (F : Nat → Prop) (p : Addr) (S : DS), D w F p S → Calls Tryz.prog 142 #[.pointer (some p)] w fun e w' => e = .returned (.int .i64 (S.n : Int)) ∧ Below w.heap.size w w'
  sizeSame : ∀ (w : World) (F : Nat → Prop) (p : Addr) (S : DS), D w F p S → Calls Tryz.prog 142 #[.pointer (some p)] w fun e w' => e = .returned (.int .i64 (S.n : Int)) ∧ w' = w

theorem DiskApi.below {D : World → (Nat → Prop) → Addr → DS → Prop} (api : DiskApi D) {w w' : World} {F : Nat → Prop} {p : Addr} {S : DS} (h : D w F p S) (hb : Below w.heap.size w w') : D w' F p S :=
  api.keep w w' F p S h fun k hk => hb.block k (api.lt w F p S h k hk)

/-- A disk in a law's memory: in blocks of the law's own. -/
def Own (D : World → (Nat → Prop) → Addr → DS → Prop) (B : Nat) (w : World) (p : Addr) (S : DS) : Prop := ∃ F : Nat → Prop, D w F p S ∧ ∀ k, F k → B ≤ k

end Go.Proofs.YtinhdimalhfgkaaGreatDoor

/-
  append of one int onto a row of the call's own, for the walk; what such a row reads as. Condition: fewer than 2^43 ints.
-/
namespace Go.Proofs.YtinhdimalhfgkaaGreatDoor
open Go.RowKit
set_option maxRecDepth 100000
set_option linter.unusedVariables false

theorem info_int : (Tryz.prog.info? 3).map (fun i => (i.zero, i.size, i.bytes)) = some (some (.int .i64 0), 1, 8) := by kernel_rfl

theorem RI.of_own {w : World} {base e c n : Nat} {A : Option Addr} {l : List Int} (h : w.ownsRow base e 1 (.slice A n c) n (l.map (Value.int .i64))) (hl : ∀ x ∈ l, -9223372036854775808 ≤ x ∧ x ≤ 9223372036854775807) : RI w w.heap.size A n l ∧ (0 < n → ∀ a, A = some a → base ≤ a.block) := by
  have hlen : l.length = n := by simpa using h.1
  rcases h.2 with ⟨_, h0⟩ | ⟨g, cap, cur, hv, hbg, hg, _, _, _, htake⟩
  · exact ⟨⟨hlen, hl, fun hn => by omega⟩, fun hn => by omega⟩
  · have hA : A = some ⟨g, 0, none⟩ := by injection hv
    subst hA
    have hlt : g < w.heap.size := by
      rcases Nat.lt_or_ge g w.heap.size with h' | h'
      · exact h'
      · rw [Array.getElem?_eq_none h'] at hg; cases hg
    refine ⟨⟨hlen, hl, fun _ => ⟨g, 0, rfl, hlt, fun j hj => ?_⟩⟩, fun _ a ha => by cases ha; exact hbg⟩
    have e1 : (l.map (Value.int .i64))[j]? = some (.int .i64 (l[j]?.getD 0)) := by simp [List.getElem?_eq_getElem (show j < l.length by omega)]
    rw [Nat.zero_add, cell_of_row w g j cur e (0, 0) hg, ← e1, ← htake, List.getElem?_take, if_pos (by omega)]
    simp
theorem int_own_ge {w : World} {base e size n : Nat} {v : Value} {xs : List Value} (h : w.ownsRow base e size v n xs) : ∀ k, v.ownBlock = some k → base ≤ k := by
  intro k hk
  rcases h.2 with ⟨rfl, _⟩ | ⟨g, cap, cur, rfl, hb, _⟩
  · simp [Value.ownBlock] at hk
  · simp [Value.ownBlock] at hk; omega
theorem int_own_shape {w : World} {base e n : Nat} {v : Value} {xs : List Value} (h : w.ownsRow base e 1 v n xs) : ∃ A c, v = .slice A n c ∧ n ≤ c := by
  rcases h.2 with ⟨rfl, rfl⟩ | ⟨g, cap, cur, rfl, hb, _, hnc, _⟩
  · exact ⟨none, 0, rfl, Nat.le_refl _⟩
  · exact ⟨_, cap, rfl, hnc⟩

theorem wpList_append_int {w : World} {ops : Array Oper} {rest : List Oper} {o : Oper} {a : Act} {Q : Exit → Act → World → Prop} (hgd : o.guard = none) (s x : Operand)
    (ho : o.op = .call { callee := .builtin .append, args := #[s, x], argTypes := #[39, 39] })
    (base : Nat) (v : Value) (n : Nat) (xs : List Int) (hs : a.eval s = v) (b : Nat) (z : Int) (T : TypeId) (hx : a.eval x = .slice (some ⟨b, 0, none⟩) 1 1)
    (hown : w.ownsRow base 3 1 v n (xs.map (Value.int .i64))) (hb : w.heap[b]? = some (.cells #[.int .i64 z] T))
    (h63 : n ≤ 8796093022208) (hbase : base ≤ w.heap.size)
    (h : ∀ v' w', w'.ownsRow base 3 1 v' (n + 1) ((xs ++ [z]).map (Value.int .i64)) → Below base w w' → wpList Tryz.prog ops Q rest (a.put o.dst v') w') : wpList Tryz.prog ops Q (o :: rest) a w := by
  obtain ⟨i0, hi, hz0, hz1, hz2⟩ := info_parts info_int
  refine wpList_append_own w hgd s x 39 ho base 3 i0 (.int .i64 0) 1 8 Tryz.underlying39 hi hz0 hz1 hz2 rfl (by decide) v n _ hs hown ⟨b, 0, none⟩ 1 1 [.int .i64 z] hx rfl (World.news_of_block (cs := #[.int .i64 z]) hb) (fun u hu => by obtain rfl := List.mem_singleton.1 hu; rfl) (by unfold maxLen; omega) (by omega) hbase ?_
  intro v' w' h1 h2 _
  exact h v' w' (by simpa using h1) ((Below.refl base w).grown h2 hbase (int_own_ge hown))

end Go.Proofs.YtinhdimalhfgkaaGreatDoor

/-
  Words for the plain log's two lists: of sectors (slices of bytes) and of pages (ints), as they are built by append; what keeps them. Plain facts; no condition beyond what each says.
-/
namespace Go.Proofs.YtinhdimalhfgkaaGreatDoor
open Go.RowKit
set_option maxRecDepth 100000
set_option linter.unusedVariables false

theorem info_slice : (Tryz.prog.info? 46).map (fun i => (i.zero, i.size, i.bytes)) = some (some (.slice none 0 0), 1, 24) := by kernel_rfl

theorem own_at {w : World} {base e size m : Nat} {v : Value} {xs : List Value} (h : w.ownsRow base e size v m xs) : ∀ g, v.ownBlock = some g → base ≤ g ∧ g < w.heap.size := by
  intro g hg
  rcases h.2 with ⟨rfl, _⟩ | ⟨g', cap, cur, rfl, hb, hh, _⟩
  · simp [Value.ownBlock] at hg
  · simp [Value.ownBlock] at hg
    subst hg
    exact ⟨hb, (Array.getElem?_eq_some_iff.1 hh).1⟩
theorem own_stays {w w' : World} {base e size m : Nat} {v : Value} {xs : List Value} (h : w.ownsRow base e size v m xs) (hk : ∀ g, v.ownBlock = some g → w'.heap[g]? = w.heap[g]?) : w'.ownsRow base e size v m xs := by
  rcases h.2 with h' | ⟨g, cap, cur, rfl, hg, hb, h3⟩
  · exact ⟨h.1, .inl h'⟩
  · exact ⟨h.1, .inr ⟨g, cap, cur, rfl, hg, (hk g (by simp [Value.ownBlock])).trans hb, h3⟩⟩
theorem RB.there {w w' : World} {g n : Nat} {l : List Int} (h : RB w w.heap.size (some ⟨g, 0, none⟩) n l) (hn : 0 < n) (e : w'.heap[g]? = w.heap[g]?) (hs : w.heap.size ≤ w'.heap.size) : RB w' w'.heap.size (some ⟨g, 0, none⟩) n l := by
  obtain ⟨b, off, e', hb, hc⟩ := h.at_ hn
  cases e'
  exact ⟨h.1, h.2.1, fun _ => ⟨g, 0, rfl, by omega, fun j hj => (World.cell?_of_block (a := ⟨g, 0 + j, none⟩) e).trans (hc j hj)⟩⟩

/-- A sector's slice that lies apart from the disk's blocks G and from two rows. -/
def Apart (w : World) (G : Nat → Prop) (ov pv u : Value) (b : List Int) : Prop :=
  ∃ g c, u = .slice (some ⟨g, 0, none⟩) 256 c ∧ 256 ≤ c ∧ ¬ G g ∧ ov.ownBlock ≠ some g ∧ pv.ownBlock ≠ some g ∧ g < w.heap.size ∧ RB w w.heap.size (some ⟨g, 0, none⟩) 256 b

/-- The two lists, l of them, in rows from block base on, apart from the blocks G. -/
structure TwoRows (w : World) (G : Nat → Prop) (base : Nat) (ov pv : Value) (l : List (Int × List Int)) : Prop where
  out : ∃ vs, w.ownsRow base 46 1 ov l.length vs ∧ ∀ (i : Nat) (x : Int × List Int), l[i]? = some x → ∃ u, vs[i]? = some u ∧ Apart w G ov pv u x.2
  pages : w.ownsRow base 3 1 pv l.length ((l.map (·.1)).map (Value.int .i64))
  og : ∀ r, ov.ownBlock = some r → ¬ G r
  pg : ∀ r, pv.ownBlock = some r → ¬ G r

section
variable {w w' : World} {G G' : Nat → Prop} {base : Nat} {ov pv : Value} {l : List (Int × List Int)}

theorem TwoRows.start (w : World) (G : Nat → Prop) (base : Nat) : TwoRows w G base (.slice none 0 0) (.slice none 0 0) [] :=
  ⟨⟨[], ⟨rfl, .inl ⟨rfl, rfl⟩⟩, fun i x h => by simp at h⟩, ⟨rfl, .inl ⟨rfl, rfl⟩⟩, fun r h => by simp [Value.ownBlock] at h, fun r h => by simp [Value.ownBlock] at h⟩

/-- Blocks that are not G's, and were there, stand. -/
theorem TwoRows.keep (h : TwoRows w G base ov pv l) (hs : w.heap.size ≤ w'.heap.size) (hG : ∀ k, k < w.heap.size → ¬ G k → ¬ G' k) (hk : ∀ k, k < w.heap.size → ¬ G k → w'.heap[k]? = w.heap[k]?) : TwoRows w' G' base ov pv l := by
  obtain ⟨vs, h1, h2⟩ := h.out
  refine ⟨⟨vs, own_stays h1 (fun g hg => hk g (own_at h1 g hg).2 (h.og g hg)), fun i x hx => ?_⟩, own_stays h.pages (fun g hg => hk g (own_at h.pages g hg).2 (h.pg g hg)), fun r hr => hG r (own_at h1 r hr).2 (h.og r hr), fun r hr => hG r (own_at h.pages r hr).2 (h.pg r hr)⟩
  obtain ⟨u, h3, g, c, h4, h5, h6, h7, h8, h9, h10⟩ := h2 i x hx
  exact ⟨u, h3, g, c, h4, h5, hG g h9 h6, h7, h8, by omega, h10.there (by decide) (hk g h9 h6) hs⟩
theorem TwoRows.below (h : TwoRows w G base ov pv l) (hb : Below w.heap.size w w') : TwoRows w' G base ov pv l := h.keep hb.size (fun _ _ h => h) (fun k hk _ => hb.block k hk)
theorem TwoRows.touch (h : TwoRows w G base ov pv l) (ht : Touch G w w') (hG : ∀ k, G' k → G k ∨ w.heap.size ≤ k) : TwoRows w' G' base ov pv l :=
  h.keep ht.size (fun k hk hn hg => by
    rcases hG k hg with a | a
    · exact hn a
    · omega) (fun k hk hn => ht.block k hk hn)

/-- The list of pages behind the append to the other list. -/
theorem TwoRows.pages1 {w1 : World} {o : Obj} {m : Nat} {vs : List Value} (h : TwoRows w G base ov pv l) (hvs : w.ownsRow base 46 1 ov m vs) (hg1 : (w.alloc o).grownBy w1 ov.ownBlock) : w1.ownsRow base 3 1 pv l.length ((l.map (·.1)).map (Value.int .i64)) := by
  refine own_stays h.pages (fun r hr => ?_)
  have hlt := (own_at h.pages r hr).2
  refine (hg1.block r (by simp; omega) (fun e => ?_)).trans (heap_alloc_old w _ hlt)
  rcases hvs.2 with ⟨rfl, _⟩ | ⟨g', cap, cur, rfl, _, hh, _⟩
  · simp [Value.ownBlock] at e
  · simp [Value.ownBlock] at e
    subst e
    rcases h.pages.2 with ⟨rfl, _⟩ | ⟨g2, cap2, cur2, rfl, _, hh2, _⟩
    · simp [Value.ownBlock] at hr
    · simp [Value.ownBlock] at hr
      subst hr
      rw [hh] at hh2
      simp at hh2

theorem TwoRows.pages2 {X w1 : World} {m : Nat} {vs : List Value} (h : TwoRows w G base ov pv l) (hvs : w.ownsRow base 46 1 ov m vs) (hX : Below w.heap.size w X) (hg1 : X.grownBy w1 ov.ownBlock) : w1.ownsRow base 3 1 pv l.length ((l.map (·.1)).map (Value.int .i64)) := by
  refine own_stays h.pages (fun r hr => ?_)
  have hlt := (own_at h.pages r hr).2
  refine (hg1.block r (Nat.lt_of_lt_of_le hlt hX.size) (fun e => ?_)).trans (hX.block r hlt)
  rcases hvs.2 with ⟨rfl, _⟩ | ⟨g', cap, cur, rfl, _, hh, _⟩
  · simp [Value.ownBlock] at e
  · simp [Value.ownBlock] at e
    subst e
    rcases h.pages.2 with ⟨rfl, _⟩ | ⟨g2, cap2, cur2, rfl, _, hh2, _⟩
    · simp [Value.ownBlock] at hr
    · simp [Value.ownBlock] at hr
      subst hr
      rw [hh] at hh2
      simp at hh2

/-- What stands at a place of both lists. -/
theorem TwoRows.at_ (h : TwoRows w G base ov pv l) {k : Nat} {y : Int × List Int} (hy : l[k]? = some y) : ∃ r c r' c' g cg, ov = .slice (some ⟨r, 0, none⟩) l.length c ∧ pv = .slice (some ⟨r', 0, none⟩) l.length c' ∧ w.cell? ⟨r, k, none⟩ = some (.slice (some ⟨g, 0, none⟩) 256 cg) ∧ w.cell? ⟨r', k, none⟩ = some (.int .i64 y.1) ∧ 256 ≤ cg ∧ ¬ G g ∧ g < w.heap.size ∧ RB w w.heap.size (some ⟨g, 0, none⟩) 256 y.2 := by
  have hk := (List.getElem?_eq_some_iff.1 hy).1
  obtain ⟨vs, h1, h2⟩ := h.out
  obtain ⟨u, h3, g, cg, rfl, h5, h6, _, _, h9, h10⟩ := h2 k y hy
  rcases h1.2 with ⟨_, h0⟩ | ⟨r, cap, cur, rfl, _, hb, _, _, _, htake⟩
  · omega
  rcases h.pages.2 with ⟨_, h0⟩ | ⟨r', cap', cur', rfl, _, hb', _, _, _, htake'⟩
  · omega
  refine ⟨r, cap, r', cap', g, cg, rfl, rfl, ?_, ?_, h5, h6, h9, h10⟩
  · rw [cell_of_row w r k cur _ (0, 0) hb, ← h3, ← htake, List.getElem?_take, if_pos (by omega)]
    simp
  · have e : ((l.map (·.1)).map (Value.int .i64))[k]? = some (.int .i64 y.1) := by rw [List.getElem?_map, List.getElem?_map, hy]; rfl
    rw [cell_of_row w r' k cur' _ (0, 0) hb', ← e, ← htake', List.getElem?_take, if_pos (by omega)]
    simp

/-- Both lists have one more: new blocks are laid ahead of each append. -/
theorem TwoRows.push2 {Xa w1 Xb w2 : World} {ov' pv' : Value} {p : Int} {b : List Int} {g c : Nat} (h : TwoRows w G base ov pv l) (hGlt : ∀ k, G k → k < w.heap.size) (hap : Apart w G ov pv (.slice (some ⟨g, 0, none⟩) 256 c) b) {vs : List Value} (hvs : w.ownsRow base 46 1 ov l.length vs) (hvl : ∀ (i : Nat) (x : Int × List Int), l[i]? = some x → ∃ u, vs[i]? = some u ∧ Apart w G ov pv u x.2)
    (hXa : Below w.heap.size w Xa) (hown1 : w1.ownsRow base 46 1 ov' (l.length + 1) (vs ++ [.slice (some ⟨g, 0, none⟩) 256 c])) (hg1 : Xa.grownBy w1 ov.ownBlock) (hl1 : ov'.ownBlock = ov.ownBlock ∨ ∃ r, ov'.ownBlock = some r ∧ w.heap.size ≤ r)
    (hXb : Below w1.heap.size w1 Xb) (hown2 : w2.ownsRow base 3 1 pv' (l.length + 1) (((l.map (·.1)) ++ [p]).map (Value.int .i64))) (hg2 : Xb.grownBy w2 pv.ownBlock) (hl2 : pv'.ownBlock = pv.ownBlock ∨ ∃ r, pv'.ownBlock = some r ∧ w1.heap.size ≤ r) :
    TwoRows w2 G base ov' pv' (l ++ [(p, b)]) ∧ w.heap.size ≤ w2.heap.size ∧ ∀ k, k < w.heap.size → ov.ownBlock ≠ some k → pv.ownBlock ≠ some k → w2.heap[k]? = w.heap[k]? := by
  have s0 := hXa.size
  have s1 : w.heap.size ≤ w1.heap.size := Nat.le_trans s0 hg1.size
  have s2 : w1.heap.size ≤ w2.heap.size := Nat.le_trans hXb.size hg2.size
  have hb1 : ∀ k, k < w.heap.size → ov.ownBlock ≠ some k → w1.heap[k]? = w.heap[k]? := fun k hk hne => (hg1.block k (by omega) (fun e => hne e.symm)).trans (hXa.block k hk)
  have hb2 : ∀ k, k < w1.heap.size → pv.ownBlock ≠ some k → w2.heap[k]? = w1.heap[k]? := fun k hk hne => (hg2.block k (Nat.lt_of_lt_of_le hk hXb.size) (fun e => hne e.symm)).trans (hXb.block k hk)
  have hall : ∀ k, k < w.heap.size → ov.ownBlock ≠ some k → pv.ownBlock ≠ some k → w2.heap[k]? = w.heap[k]? := fun k hk h1 h2 => (hb2 k (by omega) h2).trans (hb1 k hk h1)
  have hodd : ∀ r, ov.ownBlock = some r → pv.ownBlock ≠ some r := fun r h1 h2 => by
    rcases hvs.2 with ⟨rfl, _⟩ | ⟨g', cap, cur, rfl, _, hh, _⟩
    · simp [Value.ownBlock] at h1
    · simp [Value.ownBlock] at h1
      subst h1
      rcases h.pages.2 with ⟨rfl, _⟩ | ⟨g2, cap2, cur2, rfl, _, hh2, _⟩
      · simp [Value.ownBlock] at h2
      · simp [Value.ownBlock] at h2
        subst h2
        rw [hh] at hh2
        simp at hh2
  have apart : ∀ {u : Value} {y : List Int}, Apart w G ov pv u y → Apart w2 G ov' pv' u y := fun {u y} ha => by
    obtain ⟨g, c, h4, h5, h6, h7, h8, h9, h10⟩ := ha
    refine ⟨g, c, h4, h5, h6, fun e => ?_, fun e => ?_, by omega, h10.there (by decide) (hall g h9 h7 h8) (by omega)⟩
    · rcases hl1 with a | ⟨rr, a, hrr⟩
      · exact h7 (a.symm.trans e)
      · rw [a] at e; injection e with e; omega
    · rcases hl2 with a | ⟨rr, a, hrr⟩
      · exact h8 (a.symm.trans e)
      · rw [a] at e; injection e with e; omega
  have hlen : (l ++ [(p, b)]).length = l.length + 1 := by simp
  have hvlen : vs.length = l.length := by have := hvs.1; simpa using this
  refine ⟨⟨⟨vs ++ [.slice (some ⟨g, 0, none⟩) 256 c], ?_, fun i x hx => ?_⟩, ?_, fun r hr => ?_, fun r hr => ?_⟩, by omega, hall⟩
  · rw [hlen]
    refine own_stays hown1 (fun r hr => ?_)
    have hr1 := (own_at hown1 r hr).2
    refine hb2 r hr1 ?_
    rcases hl1 with a | ⟨rr, a, hrr⟩
    · exact hodd r (a.symm.trans hr)
    · rw [a] at hr
      injection hr with hr
      intro e
      have := (own_at h.pages r e).2
      omega
  · rcases Nat.lt_or_ge i l.length with hi | hi
    · rw [List.getElem?_append_left hi] at hx
      obtain ⟨u, h3, h4⟩ := hvl i x hx
      exact ⟨u, by rw [List.getElem?_append_left (by omega)]; exact h3, apart h4⟩
    · rw [List.getElem?_append_right hi] at hx
      have hi0 : i - l.length = 0 := by
        have := (List.getElem?_eq_some_iff.1 hx).1
        simp at this
        omega
      rw [hi0] at hx
      obtain rfl : (p, b) = x := by simpa using hx
      exact ⟨_, by rw [List.getElem?_append_right (by omega), hvlen, hi0]; rfl, apart hap⟩
  · rw [hlen, List.map_append]
    exact hown2
  · rcases hl1 with a | ⟨rr, a, hrr⟩
    · exact h.og r (a.symm.trans hr)
    · rw [a] at hr
      injection hr with hr
      intro hg
      have := hGlt r hg
      omega
  · rcases hl2 with a | ⟨rr, a, hrr⟩
    · exact h.pg r (a.symm.trans hr)
    · rw [a] at hr
      injection hr with hr
      intro hg
      have := hGlt r hg
      omega

/-- Both lists have one more. -/
theorem TwoRows.push {w1 w2 : World} {ov' pv' : Value} {p : Int} {b : List Int} {g c : Nat} {T T' : TypeId} (h : TwoRows w G base ov pv l) (hGlt : ∀ k, G k → k < w.heap.size) (hap : Apart w G ov pv (.slice (some ⟨g, 0, none⟩) 256 c) b) {vs : List Value} (hvs : w.ownsRow base 46 1 ov l.length vs) (hvl : ∀ (i : Nat) (x : Int × List Int), l[i]? = some x → ∃ u, vs[i]? = some u ∧ Apart w G ov pv u x.2)
    (hown1 : w1.ownsRow base 46 1 ov' (l.length + 1) (vs ++ [.slice (some ⟨g, 0, none⟩) 256 c])) (hg1 : (w.alloc (.cells #[.slice (some ⟨g, 0, none⟩) 256 c] T)).grownBy w1 ov.ownBlock) (hl1 : ov'.ownBlock = ov.ownBlock ∨ ov'.ownBlock = some (w.heap.size + 1))
    (hown2 : w2.ownsRow base 3 1 pv' (l.length + 1) (((l.map (·.1)) ++ [p]).map (Value.int .i64))) (hg2 : (w1.alloc (.cells #[.int .i64 p] T')).grownBy w2 pv.ownBlock) (hl2 : pv'.ownBlock = pv.ownBlock ∨ pv'.ownBlock = some (w1.heap.size + 1)) :
    TwoRows w2 G base ov' pv' (l ++ [(p, b)]) ∧ w.heap.size ≤ w2.heap.size ∧ ∀ k, k < w.heap.size → ov.ownBlock ≠ some k → pv.ownBlock ≠ some k → w2.heap[k]? = w.heap[k]? :=
  h.push2 hGlt hap hvs hvl ((Below.refl _ _).alloc (Nat.le_refl _) _) hown1 hg1 (hl1.imp id (fun e => ⟨_, e, by omega⟩)) ((Below.refl _ _).alloc (Nat.le_refl _) _) hown2 hg2 (hl2.imp id (fun e => ⟨_, e, by omega⟩))
end

end Go.Proofs.YtinhdimalhfgkaaGreatDoor
