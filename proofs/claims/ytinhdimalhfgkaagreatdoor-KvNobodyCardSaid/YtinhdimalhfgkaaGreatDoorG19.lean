/-
  The texts ExtC, ExtD, PairM, BkM, BkA joined. Conditions: those that each part says at its head.
-/
import Derived.Test.YtinhdimalhfgkaaGreatDoorG18
import Derived.Test.YtinhdimalhfgkaaGreatDoorG1
import Derived.Test.YtinhdimalhfgkaaGreatDoorG3
import Derived.Maps.AppendAt
import Derived.Deep.AppendLies
import Derived.Deep.Slices
import Derived.Deep.Fields
import Derived.ChangeSame
import Derived.ProofKit
import Derived.BigQuiet

/-
  A store's change gathers one step more; take while no page is free; a page's step laid. Conditions: fewer than 2^32 steps; numbers are ints.
-/
namespace Go.Proofs.YtinhdimalhfgkaaGreatDoor
open Go.RowKit
set_option maxRecDepth 100000
set_option linter.unusedVariables false

theorem info_step : (Tryz.prog.info? 78).map (fun i => (i.zero.map (fun z => z.cells.size), i.size, i.bytes)) = some (some 1, 1, 8) := by kernel_rfl
theorem step_parts : ∃ i z, Tryz.prog.info? 78 = some i ∧ i.zero = some z ∧ i.size = 1 ∧ i.bytes = 8 ∧ z.cells.size = 1 := by
  have h := info_step
  cases hi : Tryz.prog.info? 78 with
  | none => rw [hi] at h; cases h
  | some i =>
    rw [hi] at h
    simp only [Option.map_some, Option.some.injEq, Prod.mk.injEq] at h
    obtain ⟨h1, h2, h3⟩ := h
    cases hz : i.zero with
    | none => rw [hz] at h1; cases h1
    | some z =>
      rw [hz] at h1
      exact ⟨i, z, rfl, hz, h2, h3, by simpa using h1⟩

section
variable {D : World → (Nat → Prop) → Addr → DS → Prop} {w w' : World} {F O : Nat → Prop} {p : Addr} {S : DS} {q r b : Nat} {seq : Int} {L : List (Int × List Int)} {ch st mb base k : Nat} {d f n c d' f' n' c' : Int} {v v' sv : Value} {fs : List Value}

/-- One step more. -/
def ThenDone (w : World) (base ch st : Nat) (d f n c : Int) (v : Value) (d' f' n' c' : Int) (v' : Value) (mb : Nat) (sv : Value) (fs : List Value) (w' : World) : Prop :=
  ∃ sv', ChAt w' ch st d f n c v d' f' n' c' v' mb sv' ∧ w'.ownsRow base 78 1 sv' fs.length fs ∧ Touch (fun j => j = ch ∨ sv.ownBlock = some j) w w' ∧ (sv'.ownBlock = sv.ownBlock ∨ ∃ g, sv'.ownBlock = some g ∧ w.heap.size ≤ g)

theorem then_after (hc : ChAt w ch st d f n c v d' f' n' c' v' mb sv) (hch : sv.ownBlock ≠ some ch) (hkk : fs.length = k) {w4 : World} {u fv : Value} {T : TypeId} (hown : w4.ownsRow base 78 1 u (k + 1) (fs ++ [fv])) (hg : (w.alloc (.cells #[fv] T)).grownBy w4 sv.ownBlock) (hl : u.ownBlock = sv.ownBlock ∨ u.ownBlock = some (w.alloc (.cells #[fv] T)).heap.size) :
    w4.frozen? ⟨ch, 12, none⟩ = false ∧ w4.cell? ⟨ch, 12, none⟩ = some sv ∧ Hid (ThenDone w base ch st d f n c v d' f' n' c' v' mb sv (fs ++ [fv]) (w4.setCell ⟨ch, 12, none⟩ u)) := by
  have zl := hc.cells.2.2.2.2.2.2.2.2
  have hb4 : ∀ j, j < w.heap.size → sv.ownBlock ≠ some j → w4.heap[j]? = w.heap[j]? := fun j hj hne => (hg.block j (by simp; omega) (fun e => hne e.symm)).trans (Below.heap_alloc _ _ j hj)
  have hc4 : ChAt w4 ch st d f n c v d' f' n' c' v' mb sv := (hb4 ch zl hch).trans hc
  have hs4 := hg.size
  have hne4 : ∀ g, u.ownBlock = some g → g ≠ ch := fun g hg2 e => by
    rcases hl with a | a
    · exact hch (by rw [← a, hg2, e])
    · rw [hg2] at a
      injection a with a
      simp at a
      omega
  exact ⟨hc4.frozen 12, hc4.cells.2.2.2.2.2.2.2.1, Lib.hid ⟨_, hc4.setS _, by
    rw [List.length_append, hkk]
    exact own_stays hown (fun g hg => Below.heap_setCell _ _ _ _ (hne4 g hg)), ⟨hg.os, hg.tape, hg.output, Nat.le_trans (by simp) (Nat.le_trans hs4 (by simp)), fun j hj hn => (Below.heap_setCell _ _ _ _ (fun e => hn (.inl e))).trans (hb4 j hj (fun e => hn (.inr e)))⟩, by
    rcases hl with a | a
    · exact .inl a
    · exact .inr ⟨_, a, by simp⟩⟩⟩

set_option maxHeartbeats 1600000 in
theorem then_any (hc : ChAt w ch st d f n c v d' f' n' c' v' mb sv) (hown : w.ownsRow base 78 1 sv fs.length fs) (hch : sv.ownBlock ≠ some ch) (fn : Fn) (bs cs : Array Value) (hk : fs.length ≤ 4294967296) (hbase : base ≤ w.heap.size) :
    Calls Tryz.prog 146 #[.pointer (some ⟨ch, 0, none⟩), .func fn bs cs] w fun e w' => e = .returned (.tuple #[]) ∧ ThenDone w base ch st d f n c v d' f' n' c' v' mb sv (fs ++ [.func fn bs cs]) w' := by
  obtain ⟨i0, z, hi, hz, hs1, hb8, hzc⟩ := step_parts
  obtain ⟨_, _, _, _, _, _, _, z7, zl⟩ := hc.cells
  have HC := Lib.hid hc
  have HO := Lib.hid hown
  have HCH := Lib.hid hch
  generalize hkk : fs.length = k at *
  have HKK := Lib.hid hkk
  clear hc hown hch hkk
  go_enter Tryz.func146, Tryz.ntmps146
  go_wp2_with (at_builtin; refine wpList_append_own_at _ rfl _ _ 176 rfl base 78 i0 z 1 8 Tryz.underlying176 hi hz hs1 hb8 hzc (by decide) sv k fs rfl (HO.out.alloc _) ⟨w.heap.size, 0, none⟩ 1 1 [.func fn bs cs] rfl rfl (fun j u hj => World.news_of_block (cs := #[.func fn bs cs]) (heap_alloc_new _ _) j u hj) (fun u hu => by rw [List.mem_singleton.1 hu]; rfl) (by unfold maxLen; omega) (by omega) (by simp; omega) ?_; intro v4 w4 hown4 hg4 hx4 hl4; clear hx4; obtain ⟨g4, cap4, hv4, _⟩ := hown4.form (Nat.succ_pos _); subst hv4; obtain ⟨f4, y4, HE⟩ := then_after HC.out HCH.out HKK.out hown4 hg4 hl4; clear hown4 hg4 hl4)
  go_end0
  exact ⟨rfl, HE.out⟩
end
end Go.Proofs.YtinhdimalhfgkaaGreatDoor

/-
  A store's change gathers that a page will be given its bytes; take while no page is free. Conditions: fewer than 2^32 steps; numbers are ints.
-/
namespace Go.Proofs.YtinhdimalhfgkaaGreatDoor
open Go.RowKit
set_option maxRecDepth 100000
set_option linter.unusedVariables false

section
variable {D : World → (Nat → Prop) → Addr → DS → Prop} {w w' : World} {F O : Nat → Prop} {p : Addr} {S : DS} {q r b : Nat} {seq : Int} {L : List (Int × List Int)} {ch st mb base k : Nat} {d f n c d' f' n' c' : Int} {v v' sv : Value} {fs : List Value}

/-- The step that gives a page its bytes, with its three variables from block g on. -/
def layStep (g : Nat) : Value := .func (.func 185) #[] #[.pointer (some ⟨g, 0, none⟩), .pointer (some ⟨g + 1, 0, none⟩), .pointer (some ⟨g + 2, 0, none⟩)]
/-- Its variables. -/
def LayVars (w : World) (g ch : Nat) (i : Int) (u : Value) : Prop := w.cell? ⟨g, 0, none⟩ = some (.pointer (some ⟨ch, 0, none⟩)) ∧ w.cell? ⟨g + 1, 0, none⟩ = some (.int .i64 i) ∧ w.cell? ⟨g + 2, 0, none⟩ = some u

theorem ThenDone.behind {w1 : World} (hb : Below w.heap.size w w1) (h : ThenDone w1 base ch st d f n c v d' f' n' c' v' mb sv fs w') : ThenDone w base ch st d f n c v d' f' n' c' v' mb sv fs w' := by
  obtain ⟨sv', h1, h2, h3, h4⟩ := h
  exact ⟨sv', h1, h2, ⟨h3.os.trans hb.os, h3.tape.trans hb.tape, h3.output.trans hb.output, Nat.le_trans hb.size h3.size, fun j hj hn => (h3.block j (Nat.lt_of_lt_of_le hj hb.size) hn).trans (hb.block j hj)⟩, by
    rcases h4 with a | ⟨g, a, hg⟩
    · exact .inl a
    · exact .inr ⟨g, a, Nat.le_trans hb.size hg⟩⟩

set_option maxHeartbeats 1600000 in
theorem lay_any' (hc : ChAt w ch st d f n c v d' f' n' c' v' mb sv) (hown : w.ownsRow base 78 1 sv fs.length fs) (hch : sv.ownBlock ≠ some ch) (i : Int) (A : Option Addr) (m mc : Nat) (hk : fs.length ≤ 4294967296) (hbase : base ≤ w.heap.size) :
    Calls Tryz.prog 124 #[.pointer (some ⟨ch, 0, none⟩), .int .i64 i, .slice A m mc] w fun e w' => e = .returned (.tuple #[]) ∧ LayVars w' w.heap.size ch i (.slice A m mc) ∧ ThenDone w base ch st d f n c v d' f' n' c' v' mb sv (fs ++ [layStep w.heap.size]) w' := by
  have hX : Below w.heap.size w (((w.alloc (.cells #[.pointer (some ⟨ch, 0, none⟩)] 116)).alloc (.cells #[.int .i64 i] 3)).alloc (.cells #[.slice A m mc] 46)) := (((Below.refl _ _).alloc (Nat.le_refl _) _).alloc (by simp) _).alloc (by simp; omega) _
  have hsX : (((w.alloc (.cells #[.pointer (some ⟨ch, 0, none⟩)] 116)).alloc (.cells #[.int .i64 i] 3)).alloc (.cells #[.slice A m mc] 46)).heap.size = w.heap.size + 3 := by simp
  have hownX := ((hown.alloc (.cells #[.pointer (some ⟨ch, 0, none⟩)] 116)).alloc (.cells #[.int .i64 i] 3)).alloc (.cells #[.slice A m mc] 46)
  have hv : LayVars (((w.alloc (.cells #[.pointer (some ⟨ch, 0, none⟩)] 116)).alloc (.cells #[.int .i64 i] 3)).alloc (.cells #[.slice A m mc] 46)) w.heap.size ch i (.slice A m mc) := by
    have b0 := heap_alloc_new w (.cells #[.pointer (some ⟨ch, 0, none⟩)] 116)
    have b1 := heap_alloc_new (w.alloc (.cells #[.pointer (some ⟨ch, 0, none⟩)] 116)) (.cells #[.int .i64 i] 3)
    have b2 := heap_alloc_new ((w.alloc (.cells #[.pointer (some ⟨ch, 0, none⟩)] 116)).alloc (.cells #[.int .i64 i] 3)) (.cells #[.slice A m mc] 46)
    have b0' := (Below.heap_alloc _ (.cells #[.slice A m mc] 46) w.heap.size (by simp; omega)).trans ((Below.heap_alloc _ (.cells #[.int .i64 i] 3) w.heap.size (by simp)).trans b0)
    have b1' := (Below.heap_alloc _ (.cells #[.slice A m mc] 46) (w.alloc (.cells #[.pointer (some ⟨ch, 0, none⟩)] 116)).heap.size (by simp)).trans b1
    rw [show (w.alloc (.cells #[.pointer (some ⟨ch, 0, none⟩)] 116)).heap.size = w.heap.size + 1 by simp] at b1'
    rw [show ((w.alloc (.cells #[.pointer (some ⟨ch, 0, none⟩)] 116)).alloc (.cells #[.int .i64 i] 3)).heap.size = w.heap.size + 2 by simp] at b2
    refine ⟨?_, ?_, ?_⟩
    · rw [cell_of_row _ w.heap.size 0 _ _ (0, 0) b0']; rfl
    · rw [cell_of_row _ (w.heap.size + 1) 0 _ _ (0, 0) b1']; rfl
    · rw [cell_of_row _ (w.heap.size + 2) 0 _ _ (0, 0) b2]; rfl
  have HT := Lib.hid (then_any (hc.below hX) hownX hch (.func 185) #[] #[.pointer (some ⟨w.heap.size, 0, none⟩), .pointer (some ⟨w.heap.size + 1, 0, none⟩), .pointer (some ⟨w.heap.size + 2, 0, none⟩)] hk (Nat.le_trans hbase hX.size))
  have HX := Lib.hid hX
  have HV := Lib.hid hv
  obtain ⟨z0, _, _⟩ := id hv
  have hne : ch < w.heap.size := hc.cells.2.2.2.2.2.2.2.2
  have HOW := Lib.hid (show ∀ g, sv.ownBlock = some g → g < w.heap.size from fun g hg => (own_at hown g hg).2)
  clear hc hown hch hownX hX hv
  go_enter Tryz.func124, Tryz.ntmps124
  go_wp2_with fail
  refine HT.out.mono ?_
  rintro e w1 ⟨rfl, h1⟩
  have hkeep : ∀ g u, w.heap.size ≤ g → (((w.alloc (.cells #[.pointer (some ⟨ch, 0, none⟩)] 116)).alloc (.cells #[.int .i64 i] 3)).alloc (.cells #[.slice A m mc] 46)).cell? ⟨g, 0, none⟩ = some u → w1.cell? ⟨g, 0, none⟩ = some u := fun g u hg hu => by
    obtain ⟨_, _, _, ht, _⟩ := id h1
    exact (World.cell?_of_block (a := ⟨g, 0, none⟩) (ht.block g (World.block_lt_of_cell? _ _ hu) (fun e => by
      rcases e with e | e
      · have e' : g = ch := e
        omega
      · have := HOW.out g e
        omega))).trans hu
  have HE := Lib.hid (And.intro (show LayVars w1 w.heap.size ch i (.slice A m mc) from ⟨hkeep _ _ (Nat.le_refl _) HV.out.1, hkeep _ _ (Nat.le_succ _) HV.out.2.1, hkeep _ _ (by omega) HV.out.2.2⟩) (ThenDone.behind HX.out h1))
  clear hkeep h1 HT
  go_wp2
  go_end0
  exact ⟨rfl, HE.out⟩

set_option maxHeartbeats 1600000 in
theorem take_new (api : DiskApi D) (h : PgAt D w F O p S q seq r b L) (hc : ChAt w ch st d f n c v d' 0 n' c' v' mb sv) (hs : StAt w st r) (hn : 0 ≤ n' ∧ n' < 4611686018427387904) :
    Calls Tryz.prog 88 #[.pointer (some ⟨ch, 0, none⟩)] w fun e w' => (pagesOf S.n ≤ n' ∧ e = .returned (.tuple #[.int .i64 0, .int .i64 6]) ∧ w' = w) ∨ (n' < pagesOf S.n ∧ e = .returned (.tuple #[.int .i64 n', .int .i64 0]) ∧ w' = w.setCell ⟨ch, 8, none⟩ (.int .i64 (n' + 1))) := by
  obtain ⟨_, _, z2, _, _, _, _, _, zl⟩ := hc.cells
  have HT := Lib.hid (takeNew_any api h hc hs hn)
  clear h hc hs
  go_enter Tryz.func88, Tryz.ntmps88
  go_wp2_with fail
  refine HT.out.mono ?_
  rintro e w1 (⟨hf, rfl, rfl⟩ | ⟨hf, rfl, rfl⟩)
  · go_wp2
    go_ret2
    exact .inl ⟨hf, rfl, rfl⟩
  · go_wp2
    go_ret2
    exact .inr ⟨hf, rfl, rfl⟩
end
end Go.Proofs.YtinhdimalhfgkaaGreatDoor

/-
  Words for a list of pairs as it lies in memory (each a key and a value, slices of bytes); what keeps it. Plain facts; no condition beyond what each says.
-/
namespace Go.Proofs.YtinhdimalhfgkaaGreatDoor
open Go.RowKit
set_option maxRecDepth 100000
set_option linter.unusedVariables false

/-- A key with its value. -/
abbrev KV := List Int × List Int

/-- A pair at some place, below block B. -/
def PairAt (w : World) (B b off : Nat) (x : KV) : Prop :=
  ∃ (ka : Option Addr) (kn kc : Nat) (va : Option Addr) (vn vc : Nat), w.cell? ⟨b, off, none⟩ = some (.slice ka kn kc) ∧ w.cell? ⟨b, off + 1, none⟩ = some (.slice va vn vc) ∧ RB w B ka kn x.1 ∧ (kn ≤ kc ∧ kn ≤ maxLen) ∧ RB w B va vn x.2 ∧ (vn ≤ vc ∧ vn ≤ maxLen)
/-- The slice at A of n pairs reads as the list ps in w, and lies below block B. -/
def RPairs (w : World) (B : Nat) (A : Option Addr) (n : Nat) (ps : List KV) : Prop :=
  ps.length = n ∧ (0 < n → ∃ b off, A = some ⟨b, off, none⟩ ∧ b < B ∧ ∀ j x, ps[j]? = some x → PairAt w B b (off + j * 2) x)

section
variable {w w' : World} {B B' n : Nat} {A : Option Addr} {ps : List KV}
theorem PairAt.keep {b off : Nat} {x : KV} (h : PairAt w B b off x) (hb : b < B) (hk : ∀ b o, b < B → w'.cell? ⟨b, o, none⟩ = w.cell? ⟨b, o, none⟩) : PairAt w' B b off x := by
  obtain ⟨ka, kn, kc, va, vn, vc, h0, h1, h2, h3, h4, h5⟩ := h
  exact ⟨ka, kn, kc, va, vn, vc, (hk _ _ hb).trans h0, (hk _ _ hb).trans h1, h2.keep hk, h3, h4.keep hk, h5⟩
theorem PairAt.more {b off : Nat} {x : KV} (h : PairAt w B b off x) (hB : B ≤ B') : PairAt w B' b off x := by
  obtain ⟨ka, kn, kc, va, vn, vc, h0, h1, h2, h3, h4, h5⟩ := h
  exact ⟨ka, kn, kc, va, vn, vc, h0, h1, h2.more hB, h3, h4.more hB, h5⟩
theorem RPairs.nil_ : RPairs w B A 0 [] := ⟨rfl, fun h => absurd h (by omega)⟩
theorem RPairs.len (h : RPairs w B A n ps) : ps.length = n := h.1
theorem RPairs.keep (h : RPairs w B A n ps) (hk : ∀ b o, b < B → w'.cell? ⟨b, o, none⟩ = w.cell? ⟨b, o, none⟩) : RPairs w' B A n ps :=
  ⟨h.1, fun hn => by
    obtain ⟨b, off, e, hb, hc⟩ := h.2 hn
    exact ⟨b, off, e, hb, fun j x hx => (hc j x hx).keep hb hk⟩⟩
theorem RPairs.more (h : RPairs w B A n ps) (hB : B ≤ B') : RPairs w B' A n ps :=
  ⟨h.1, fun hn => by
    obtain ⟨b, off, e, hb, hc⟩ := h.2 hn
    exact ⟨b, off, e, by omega, fun j x hx => (hc j x hx).more hB⟩⟩
theorem RPairs.below (h : RPairs w B A n ps) (hb : Below B w w') : RPairs w' B A n ps := h.keep fun b o hp => hb.cell (p := ⟨b, o, none⟩) hp
theorem RPairs.drew (h : RPairs w B A n ps) : RPairs w.drew B A n ps := h.keep fun _ _ _ => rfl
theorem RPairs.alloc (h : RPairs w B A n ps) (hB : B ≤ w.heap.size) (o : Obj) : RPairs (w.alloc o) B A n ps := h.keep fun b o' hp => World.cell?_alloc_lt w o ⟨b, o', none⟩ (by simp; omega)
end

end Go.Proofs.YtinhdimalhfgkaaGreatDoor

/-
  Words for a list of pairs as it lies in memory (each a key and a value, slices of bytes); what keeps it; what a bucket is, said over plain lists. Plain facts; no condition beyond what each says.
-/
namespace Go.Proofs.YtinhdimalhfgkaaGreatDoor
open Go.RowKit
set_option maxRecDepth 100000
set_option linter.unusedVariables false

/-- How many bytes pairs need. -/
def szP (ps : List KV) : Nat := (ps.map fun x => 2 + x.1.length + x.2.length).sum
theorem szP_nil : szP [] = 0 := rfl
theorem szP_snoc (ps : List KV) (x : KV) : szP (ps ++ [x]) = szP ps + (2 + x.1.length + x.2.length) := by simp [szP]
theorem szP_cons (x : KV) (ps : List KV) : szP (x :: ps) = (2 + x.1.length + x.2.length) + szP ps := by simp [szP]
theorem szP_append (a b : List KV) : szP (a ++ b) = szP a + szP b := by simp [szP]
theorem szP_step {ps : List KV} {k : Nat} {x : KV} (h : ps[k]? = some x) : szP (ps.take (k + 1)) = szP (ps.take k) + (2 + x.1.length + x.2.length) := by
  obtain ⟨hk, rfl⟩ := List.getElem?_eq_some_iff.1 h
  rw [List.take_succ_eq_append_getElem hk, szP_snoc]
theorem szP_take_le (ps : List KV) (k : Nat) : szP (ps.take k) ≤ szP ps := by
  have := szP_append (ps.take k) (ps.drop k)
  rw [List.take_append_drop] at this
  omega
theorem szP_len (ps : List KV) : 2 * ps.length ≤ szP ps := by
  induction ps with
  | nil => simp [szP]
  | cons x ps ih => rw [szP_cons, List.length_cons]; omega

/-- The place of a key. -/
def findI (ps : List KV) (key : List Int) : Int := match ps.findIdx? (fun x => x.1 == key) with | some i => (i : Int) | none => -1
theorem findI_at {ps : List KV} {key : List Int} {j : Nat} {x : KV} (hx : ps[j]? = some x) (hk : x.1 = key) (hbef : ∀ (m : Nat) (y : KV), m < j → ps[m]? = some y → y.1 ≠ key) : findI ps key = (j : Int) := by
  unfold findI
  obtain ⟨hj, rfl⟩ := List.getElem?_eq_some_iff.1 hx
  have : ps.findIdx? (fun x => x.1 == key) = some j := by
    rw [List.findIdx?_eq_some_iff_getElem]
    exact ⟨hj, by simpa using hk, fun m hm => by simpa using hbef m _ hm (List.getElem?_eq_getElem (by omega))⟩
  rw [this]
theorem findI_none {ps : List KV} {key : List Int} (h : ∀ (m : Nat) (y : KV), ps[m]? = some y → y.1 ≠ key) : findI ps key = -1 := by
  unfold findI
  have : ps.findIdx? (fun x => x.1 == key) = none := by
    rw [List.findIdx?_eq_none_iff]
    intro x hx
    obtain ⟨m, hm, rfl⟩ := List.getElem_of_mem hx
    simpa using h m _ (List.getElem?_eq_getElem hm)
  rw [this]
theorem findI_bounds (ps : List KV) (key : List Int) : -1 ≤ findI ps key ∧ findI ps key ≤ ps.length := by
  unfold findI
  cases h : ps.findIdx? (fun x => x.1 == key) with
  | none => simp
  | some i =>
    have := (List.findIdx?_eq_some_iff_getElem.1 h).1
    simp
    omega

/-- A pair may be at its place. -/
def okAt (ps : List KV) (i : Nat) : Bool := match ps[i]? with
  | some x => decide (1 ≤ x.1.length) && decide (x.1.length ≤ 32) && decide (x.2.length ≤ 120) && (findI ps x.1 == (i : Int))
  | none => true
theorem okAt_some {ps : List KV} {i : Nat} {x : KV} (h : ps[i]? = some x) : okAt ps i = (decide (1 ≤ x.1.length) && decide (x.1.length ≤ 32) && decide (x.2.length ≤ 120) && (findI ps x.1 == (i : Int))) := by
  unfold okAt
  rw [h]
/-- Pairs may be. -/
def pairsB (ps : List KV) : Bool := (List.range ps.length).all (okAt ps)
theorem pairsB_false {ps : List KV} {i : Nat} (hi : i < ps.length) (h : okAt ps i = false) : pairsB ps = false := by
  cases e : pairsB ps
  · rfl
  · have := List.all_eq_true.1 e i (by simpa using hi)
    rw [h] at this
    cases this
theorem pairsB_true {ps : List KV} (h : ∀ i, i < ps.length → okAt ps i = true) : pairsB ps = true :=
  List.all_eq_true.2 fun i hi => h i (by simpa using hi)

/-- A bucket, read. -/
structure BV where
  d : Int
  x : Int
  ps : List KV
/-- It may be. -/
def mayBk (b : BV) : Bool := decide (8 + szP b.ps ≤ 240) && decide (0 ≤ b.d) && decide (b.d ≤ 10) && rightB b.x 4 && pairsB b.ps
/-- A pair's bytes. -/
def pairL (x : KV) : List Int := (x.1.length : Int) :: (x.2.length : Int) :: (x.1 ++ x.2)
def pairsL (ps : List KV) : List Int := ps.flatMap pairL
theorem pairL_length (x : KV) : (pairL x).length = 2 + x.1.length + x.2.length := by simp [pairL]; omega
theorem pairsL_length (ps : List KV) : (pairsL ps).length = szP ps := by
  induction ps with
  | nil => rfl
  | cons x ps ih => rw [szP_cons, ← ih]; simp [pairsL, pairL]; omega
theorem pairsL_step {ps : List KV} {k : Nat} {x : KV} (h : ps[k]? = some x) : pairsL (ps.take (k + 1)) = pairsL (ps.take k) ++ pairL x := by
  obtain ⟨hk, rfl⟩ := List.getElem?_eq_some_iff.1 h
  unfold pairsL
  rw [List.take_succ_eq_append_getElem hk, List.flatMap_append]
  simp only [List.flatMap_cons, List.flatMap_nil, List.append_nil]
/-- What a page begins with. -/
def bkHeadL (b : BV) : List Int := 66 :: (putB b.d 1 ++ (putB b.x 4 ++ putB (b.ps.length : Int) 2))
theorem bkHeadL_length (b : BV) : (bkHeadL b).length = 8 := by simp [bkHeadL, putB_length]
/-- Its page. -/
def pageBk (b : BV) : List Int := bkHeadL b ++ pairsL b.ps ++ List.replicate (240 - (8 + szP b.ps)) 0
theorem pageBk_length {b : BV} (h : 8 + szP b.ps ≤ 240) : (pageBk b).length = 240 := by
  unfold pageBk
  rw [List.length_append, List.length_append, bkHeadL_length, pairsL_length, List.length_replicate]
  omega
/-- Put. -/
def putBk (b : BV) : List Int × Int := if mayBk b = true then (pageBk b, 0) else ([], 1)
end Go.Proofs.YtinhdimalhfgkaaGreatDoor

/-
  Contracts of bucket.Size, Fits and of the plain Size: what the words say; they make memory, and write nothing that was there. Condition: pairs of few bytes.
-/
namespace Go.Proofs.YtinhdimalhfgkaaGreatDoor
open Go.RowKit
set_option maxRecDepth 100000
set_option linter.unusedVariables false

/-- A bucket's box. -/
def BkObj (d x : Int) (A : Option Addr) (n c : Nat) : Obj := .cells #[.int .i64 d, .int .i64 x, .slice A n c] 90 (0, 0)
def BkBox (w : World) (g : Nat) (d x : Int) (A : Option Addr) (n c : Nat) : Prop := w.heap[g]? = some (BkObj d x A n c)
theorem BkBox.cells {w : World} {g n c : Nat} {d x : Int} {A : Option Addr} (h : BkBox w g d x A n c) : w.cell? ⟨g, 0, none⟩ = some (.int .i64 d) ∧ w.cell? ⟨g, 1, none⟩ = some (.int .i64 x) ∧ w.cell? ⟨g, 2, none⟩ = some (.slice A n c) ∧ g < w.heap.size := by
  refine ⟨?_, ?_, ?_, (Array.getElem?_eq_some_iff.1 h).1⟩ <;> (rw [cell_of_row w g _ _ _ (0, 0) h]; rfl)
theorem BkBox.below {w w' : World} {g n c : Nat} {d x : Int} {A : Option Addr} (h : BkBox w g d x A n c) (hb : Below w.heap.size w w') : BkBox w' g d x A n c := (hb.block g (Array.getElem?_eq_some_iff.1 h).1).trans h
theorem BkBox.new (w : World) (d x : Int) (A : Option Addr) (n c : Nat) : BkBox (w.alloc (BkObj d x A n c)) w.heap.size d x A n c := heap_alloc_new w _

theorem wrap63 {n : Int} (h0 : -9223372036854775808 ≤ n) (h1 : n ≤ 9223372036854775807) : wrap64 n = n := by unfold wrap64; omega

set_option maxHeartbeats 800000 in
theorem bkSize_any {w : World} {B n : Nat} {A : Option Addr} {ps : List KV} (d x : Int) (c : Nat) (hr : RPairs w B A n ps) (hB : B ≤ w.heap.size) (hm : n ≤ maxLen) (hsz : szP ps ≤ 4611686018427387904) :
    Calls Tryz.prog 222 #[.agg #[.int .i64 d, .int .i64 x, .slice A n c]] w fun e w' => e = .returned (.int .i64 ((8 + szP ps : Nat) : Int)) ∧ Below w.heap.size w w' := by
  unfold maxLen at hm
  have HX := Lib.hid (show Below w.heap.size w (w.alloc (BkObj d x A n c)) from (Below.refl _ _).alloc (Nat.le_refl _) _)
  obtain ⟨x0, x1, x2, _⟩ := (BkBox.new w d x A n c).cells
  have HSZ := Lib.hid (fun k => szP_take_le ps k)
  have HALL := Lib.hid (show szP ps = szP (ps.take n) by rw [List.take_of_length_le (by rw [hr.len]; exact Nat.le_refl _)])
  have HR := Lib.hid hr
  clear hr
  unfold BkObj at *
  go_enter Tryz.func222, Tryz.ntmps222
  go_wp2_with fail
  clear x0 x1 x2
  go_loopw [3, 9] (fun v i wr => ∃ k : Nat, k ≤ n ∧ i = .int .i64 k ∧ v = .int .i64 ((8 + szP (ps.take k) : Nat) : Int) ∧ Hid (Below w.heap.size w wr)) (fun _ i _ => n - (intOf i).toNat)
  case atStart => exact ⟨0, Nat.zero_le _, rfl, rfl, HX⟩
  case round =>
    obtain ⟨k, hk, rfl, rfl, hb⟩ := hrel
    have hsk := HSZ.out k
    by_cases hlt : k < n
    · obtain ⟨b, off, rfl, hbB, hat⟩ := HR.out.2 (by omega)
      obtain ⟨y, hy⟩ : ∃ y, ps[k]? = some y := ⟨_, List.getElem?_eq_getElem (by rw [HR.out.len]; exact hlt)⟩
      have hst := Lib.hid (szP_step hy)
      have hs1 := HSZ.out (k + 1)
      rw [hst.out] at hs1
      obtain ⟨ka, kn, kc, va, vn, vc, h0, h1, h2, h3, h4, h5⟩ := (hat k y hy).keep hbB (fun b o hbb => hb.out.cell (p := ⟨b, o, none⟩) (Nat.lt_of_lt_of_le hbb hB))
      rw [h2.len, h4.len] at hst hs1
      clear hat hy h2 h4
      have HN := Lib.hid (hb.out.alloc hb.out.size (.cells #[.slice ka kn kc, .slice va vn vc] 95 (0, 0)))
      obtain ⟨h3a, h3b⟩ := h3
      obtain ⟨h5a, h5b⟩ := h5
      unfold maxLen at h3b h5b
      generalize szP (ps.take k) = s at hsk hst hs1 ⊢
      have hk64 : (k : Int) < (n : Int) := by omega
      go_wp2
      go_roundw
      case rel => exact ⟨k + 1, by omega, by go_num, by rw [hst.out]; congr 1; omega, HN⟩
      case measure => simp [intOf]; omega
    · obtain rfl : k = n := by omega
      rw [← HALL.out]
      go_wp2
      go_ret
      exact ⟨rfl, hb.out⟩

/-- A box stands while a function makes memory. -/
theorem BkBox.kept {w wr : World} {n c : Nat} {d x : Int} {A : Option Addr} (hb : Below (w.alloc (BkObj d x A n c)).heap.size (w.alloc (BkObj d x A n c)) wr) : BkBox wr w.heap.size d x A n c ∧ Below w.heap.size w wr :=
  ⟨(BkBox.new w d x A n c).below hb, ((Below.refl w.heap.size w).alloc (Nat.le_refl _) _).trans (hb.mono (by simp))⟩

set_option maxHeartbeats 800000 in
theorem bkFits_any {w : World} {B n : Nat} {A : Option Addr} {ps : List KV} (d x : Int) (c : Nat) (hr : RPairs w B A n ps) (hB : B ≤ w.heap.size) (hm : n ≤ maxLen) (hsz : szP ps ≤ 4611686018427387904) :
    Calls Tryz.prog 190 #[.agg #[.int .i64 d, .int .i64 x, .slice A n c]] w fun e w' => e = .returned (.bool (decide (8 + szP ps ≤ 240))) ∧ Below w.heap.size w w' := by
  have hX : Below w.heap.size w (w.alloc (BkObj d x A n c)) := (Below.refl _ _).alloc (Nat.le_refl _) _
  have HS := Lib.hid (bkSize_any d x c (hr.below (hX.mono hB)) (Nat.le_trans hB hX.size) hm hsz)
  have HX := Lib.hid hX
  obtain ⟨x0, x1, x2, _⟩ := (BkBox.new w d x A n c).cells
  have hd : decide (8 + szP ps ≤ 240) = decide (((8 + szP ps : Nat) : Int) ≤ 240) := by
    congr 1
    exact propext (by omega)
  rw [hd]
  clear hr hd hX
  generalize 8 + szP ps = s at HS ⊢
  unfold BkObj at *
  go_enter Tryz.func190, Tryz.ntmps190
  go_wp2_with fail
  refine HS.out.mono ?_
  rintro e w' ⟨rfl, hb⟩
  have HE := Lib.hid (HX.out.trans (hb.mono HX.out.size))
  clear hb x0 x1 x2
  go_wp2
  go_ret
  exact ⟨rfl, HE.out⟩

set_option maxHeartbeats 800000 in
theorem refBkSize_any {w : World} {B n : Nat} {A : Option Addr} {ps : List KV} (d x : Int) (c : Nat) (hr : RPairs w B A n ps) (hB : B ≤ w.heap.size) (hm : n ≤ maxLen) (hsz : szP ps ≤ 4611686018427387904) :
    Calls Tryz.prog 214 #[.agg #[.int .i64 d, .int .i64 x, .slice A n c]] w fun e w' => e = .returned (.int .i64 ((8 + szP ps : Nat) : Int)) ∧ Below w.heap.size w w' := by
  unfold maxLen at hm
  have HSZ := Lib.hid (fun k => szP_take_le ps k)
  have HALL := Lib.hid (show szP ps = szP (ps.take n) by rw [List.take_of_length_le (by rw [hr.len]; exact Nat.le_refl _)])
  have HR := Lib.hid hr
  have HK := Lib.hid (fun wr => BkBox.kept (w := w) (wr := wr) (n := n) (c := c) (d := d) (x := x) (A := A))
  clear hr
  unfold BkObj at HK
  go_enter Tryz.func214, Tryz.ntmps214
  go_wp2_with fail
  go_loopw [3, 4] (fun v i wr => ∃ k : Nat, k ≤ n ∧ i = .int .i64 k ∧ v = .int .i64 ((8 + szP (ps.take k) : Nat) : Int) ∧ Hid (Below (w.alloc (.cells #[.int .i64 d, .int .i64 x, .slice A n c] 90 (0, 0))).heap.size (w.alloc (.cells #[.int .i64 d, .int .i64 x, .slice A n c] 90 (0, 0))) wr)) (fun _ i _ => n - (intOf i).toNat)
  case atStart => exact ⟨0, Nat.zero_le _, rfl, rfl, Lib.hid (Below.refl _ _)⟩
  case round =>
    obtain ⟨k, hk, rfl, rfl, hb0⟩ := hrel
    obtain ⟨hbx, hb⟩ := HK.out wr hb0.out
    have hsk := HSZ.out k
    obtain ⟨x0, x1, x2, _⟩ := hbx.cells
    by_cases hlt : k < n
    · obtain ⟨b, off, rfl, hbB, hat⟩ := HR.out.2 (by omega)
      obtain ⟨y, hy⟩ : ∃ y, ps[k]? = some y := ⟨_, List.getElem?_eq_getElem (by rw [HR.out.len]; exact hlt)⟩
      have hst := Lib.hid (szP_step hy)
      have hs1 := HSZ.out (k + 1)
      rw [hst.out] at hs1
      obtain ⟨ka, kn, kc, va, vn, vc, h0, h1, h2, h3, h4, h5⟩ := (hat k y hy).keep hbB (fun b o hbb => hb.cell (p := ⟨b, o, none⟩) (Nat.lt_of_lt_of_le hbb hB))
      rw [h2.len, h4.len] at hst hs1
      clear hat hy h2 h4 hb hbx
      obtain ⟨h3a, h3b⟩ := h3
      obtain ⟨h5a, h5b⟩ := h5
      unfold maxLen at h3b h5b
      generalize szP (ps.take k) = s at hsk hst hs1 ⊢
      have hk64 : (k : Int) < (n : Int) := by omega
      go_wp2_with fail
      go_quiet (fail)
      go_wp2
      go_roundw
      case rel => exact ⟨k + 1, by omega, by go_num, by rw [hst.out]; congr 1; omega, Lib.hid (below_drewN hb0.out _)⟩
      case measure => simp [intOf]; omega
    · obtain rfl : k = n := by omega
      have HB := Lib.hid hb
      clear hb hbx
      rw [← HALL.out]
      go_wp2
      go_ret
      exact ⟨rfl, HB.out⟩
end Go.Proofs.YtinhdimalhfgkaaGreatDoor
