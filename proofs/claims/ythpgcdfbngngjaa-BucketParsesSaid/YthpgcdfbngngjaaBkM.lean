/-
  Words for a list of pairs as it lies in memory (each a key and a value, slices of bytes); what keeps it; what a bucket is, said over plain lists. Plain facts; no condition beyond what each says.
-/
import Derived.Test.YthpgcdfbngngjaaNumBackP
import Derived.Deep.Slices
import Derived.Deep.Fields
import Derived.ChangeSame
import Derived.ProofKit
namespace Go.Proofs.Ythpgcdfbngngjaa
open Go.RowKit
set_option maxRecDepth 100000
set_option linter.unusedVariables false

/-- A key with its value. -/
abbrev KV := List Int × List Int

/-- A pair at some place, below block B. -/
def PairAt (w : World) (B b off : Nat) (x : KV) : Prop :=
  ∃ (ka : Option Addr) (kn kc : Nat) (va : Option Addr) (vn vc : Nat), w.cell? ⟨b, off, none⟩ = some (.slice ka kn kc) ∧ w.cell? ⟨b, off + 1, none⟩ = some (.slice va vn vc) ∧ RB w B ka kn x.1 ∧ (kn ≤ kc ∧ kn ≤ maxLen) ∧ RB w B va vn x.2 ∧ (vn ≤ vc ∧ vn ≤ maxLen)
/-- The slice at A of n pairs reads as the list ps in w, and lies below block B. -/
def RPairs (w : World) (B : Nat) (A : Option Addr) (n : Nat) (ps : List KV) : Prop :=
  ps.length = n ∧ (0 < n → ∃ b off, A = some ⟨b, off, none⟩ ∧ b < B ∧ ∀ j x, ps[j]? = some x → PairAt w B b (off + j * 2) x)

section
variable {w w' : World} {B B' n : Nat} {A : Option Addr} {ps : List KV}
theorem PairAt.keep {b off : Nat} {x : KV} (h : PairAt w B b off x) (hb : b < B) (hk : ∀ b o, b < B → w'.cell? ⟨b, o, none⟩ = w.cell? ⟨b, o, none⟩) : PairAt w' B b off x := by
  obtain ⟨ka, kn, kc, va, vn, vc, h0, h1, h2, h3, h4, h5⟩ := h
  exact ⟨ka, kn, kc, va, vn, vc, (hk _ _ hb).trans h0, (hk _ _ hb).trans h1, h2.keep hk, h3, h4.keep hk, h5⟩
theorem PairAt.more {b off : Nat} {x : KV} (h : PairAt w B b off x) (hB : B ≤ B') : PairAt w B' b off x := by
  obtain ⟨ka, kn, kc, va, vn, vc, h0, h1, h2, h3, h4, h5⟩ := h
  exact ⟨ka, kn, kc, va, vn, vc, h0, h1, h2.more hB, h3, h4.more hB, h5⟩
theorem RPairs.nil_ : RPairs w B A 0 [] := ⟨rfl, fun h => absurd h (by omega)⟩
theorem RPairs.len (h : RPairs w B A n ps) : ps.length = n := h.1
theorem RPairs.keep (h : RPairs w B A n ps) (hk : ∀ b o, b < B → w'.cell? ⟨b, o, none⟩ = w.cell? ⟨b, o, none⟩) : RPairs w' B A n ps :=
  ⟨h.1, fun hn => by
    obtain ⟨b, off, e, hb, hc⟩ := h.2 hn
    exact ⟨b, off, e, hb, fun j x hx => (hc j x hx).keep hb hk⟩⟩
theorem RPairs.more (h : RPairs w B A n ps) (hB : B ≤ B') : RPairs w B' A n ps :=
  ⟨h.1, fun hn => by
    obtain ⟨b, off, e, hb, hc⟩ := h.2 hn
    exact ⟨b, off, e, by omega, fun j x hx => (hc j x hx).more hB⟩⟩
theorem RPairs.below (h : RPairs w B A n ps) (hb : Below B w w') : RPairs w' B A n ps := h.keep fun b o hp => hb.cell (p := ⟨b, o, none⟩) hp
theorem RPairs.drew (h : RPairs w B A n ps) : RPairs w.drew B A n ps := h.keep fun _ _ _ => rfl
theorem RPairs.alloc (h : RPairs w B A n ps) (hB : B ≤ w.heap.size) (o : Obj) : RPairs (w.alloc o) B A n ps := h.keep fun b o' hp => World.cell?_alloc_lt w o ⟨b, o', none⟩ (by simp; omega)
end

/-- How many bytes pairs need. -/
def szP (ps : List KV) : Nat := (ps.map fun x => 2 + x.1.length + x.2.length).sum
theorem szP_nil : szP [] = 0 := rfl
theorem szP_snoc (ps : List KV) (x : KV) : szP (ps ++ [x]) = szP ps + (2 + x.1.length + x.2.length) := by simp [szP]
theorem szP_cons (x : KV) (ps : List KV) : szP (x :: ps) = (2 + x.1.length + x.2.length) + szP ps := by simp [szP]
theorem szP_append (a b : List KV) : szP (a ++ b) = szP a + szP b := by simp [szP]
theorem szP_step {ps : List KV} {k : Nat} {x : KV} (h : ps[k]? = some x) : szP (ps.take (k + 1)) = szP (ps.take k) + (2 + x.1.length + x.2.length) := by
  obtain ⟨hk, rfl⟩ := List.getElem?_eq_some_iff.1 h
  rw [List.take_succ_eq_append_getElem hk, szP_snoc]
theorem szP_take_le (ps : List KV) (k : Nat) : szP (ps.take k) ≤ szP ps := by
  have := szP_append (ps.take k) (ps.drop k)
  rw [List.take_append_drop] at this
  omega
theorem szP_len (ps : List KV) : 2 * ps.length ≤ szP ps := by
  induction ps with
  | nil => simp [szP]
  | cons x ps ih => rw [szP_cons, List.length_cons]; omega

/-- The place of a key. -/
def findI (ps : List KV) (key : List Int) : Int := match ps.findIdx? (fun x => x.1 == key) with | some i => (i : Int) | none => -1
theorem findI_at {ps : List KV} {key : List Int} {j : Nat} {x : KV} (hx : ps[j]? = some x) (hk : x.1 = key) (hbef : ∀ (m : Nat) (y : KV), m < j → ps[m]? = some y → y.1 ≠ key) : findI ps key = (j : Int) := by
  unfold findI
  obtain ⟨hj, rfl⟩ := List.getElem?_eq_some_iff.1 hx
  have : ps.findIdx? (fun x => x.1 == key) = some j := by
    rw [List.findIdx?_eq_some_iff_getElem]
    exact ⟨hj, by simpa using hk, fun m hm => by simpa using hbef m _ hm (List.getElem?_eq_getElem (by omega))⟩
  rw [this]
theorem findI_none {ps : List KV} {key : List Int} (h : ∀ (m : Nat) (y : KV), ps[m]? = some y → y.1 ≠ key) : findI ps key = -1 := by
  unfold findI
  have : ps.findIdx? (fun x => x.1 == key) = none := by
    rw [List.findIdx?_eq_none_iff]
    intro x hx
    obtain ⟨m, hm, rfl⟩ := List.getElem_of_mem hx
    simpa using h m _ (List.getElem?_eq_getElem hm)
  rw [this]
theorem findI_bounds (ps : List KV) (key : List Int) : -1 ≤ findI ps key ∧ findI ps key ≤ ps.length := by
  unfold findI
  cases h : ps.findIdx? (fun x => x.1 == key) with
  | none => simp
  | some i =>
    have := (List.findIdx?_eq_some_iff_getElem.1 h).1
    simp
    omega

/-- A pair may be at its place. -/
def okAt (ps : List KV) (i : Nat) : Bool := match ps[i]? with
  | some x => decide (1 ≤ x.1.length) && decide (x.1.length ≤ 32) && decide (x.2.length ≤ 120) && (findI ps x.1 == (i : Int))
  | none => true
theorem okAt_some {ps : List KV} {i : Nat} {x : KV} (h : ps[i]? = some x) : okAt ps i = (decide (1 ≤ x.1.length) && decide (x.1.length ≤ 32) && decide (x.2.length ≤ 120) && (findI ps x.1 == (i : Int))) := by
  unfold okAt
  rw [h]
/-- Pairs may be. -/
def pairsB (ps : List KV) : Bool := (List.range ps.length).all (okAt ps)
theorem pairsB_false {ps : List KV} {i : Nat} (hi : i < ps.length) (h : okAt ps i = false) : pairsB ps = false := by
  cases e : pairsB ps
  · rfl
  · have := List.all_eq_true.1 e i (by simpa using hi)
    rw [h] at this
    cases this
theorem pairsB_true {ps : List KV} (h : ∀ i, i < ps.length → okAt ps i = true) : pairsB ps = true :=
  List.all_eq_true.2 fun i hi => h i (by simpa using hi)

/-- A bucket, read. -/
structure BV where
  d : Int
  x : Int
  ps : List KV
/-- It may be. -/
def mayBk (b : BV) : Bool := decide (8 + szP b.ps ≤ 240) && decide (0 ≤ b.d) && decide (b.d ≤ 10) && rightB b.x 4 && pairsB b.ps
/-- A pair's bytes. -/
def pairL (x : KV) : List Int := (x.1.length : Int) :: (x.2.length : Int) :: (x.1 ++ x.2)
def pairsL (ps : List KV) : List Int := ps.flatMap pairL
theorem pairL_length (x : KV) : (pairL x).length = 2 + x.1.length + x.2.length := by simp [pairL]; omega
theorem pairsL_length (ps : List KV) : (pairsL ps).length = szP ps := by
  induction ps with
  | nil => rfl
  | cons x ps ih => rw [szP_cons, ← ih]; simp [pairsL, pairL]; omega
theorem pairsL_step {ps : List KV} {k : Nat} {x : KV} (h : ps[k]? = some x) : pairsL (ps.take (k + 1)) = pairsL (ps.take k) ++ pairL x := by
  obtain ⟨hk, rfl⟩ := List.getElem?_eq_some_iff.1 h
  unfold pairsL
  rw [List.take_succ_eq_append_getElem hk, List.flatMap_append]
  simp only [List.flatMap_cons, List.flatMap_nil, List.append_nil]
/-- What a page begins with. -/
def bkHeadL (b : BV) : List Int := 66 :: (putB b.d 1 ++ (putB b.x 4 ++ putB (b.ps.length : Int) 2))
theorem bkHeadL_length (b : BV) : (bkHeadL b).length = 8 := by simp [bkHeadL, putB_length]
/-- Its page. -/
def pageBk (b : BV) : List Int := bkHeadL b ++ pairsL b.ps ++ List.replicate (240 - (8 + szP b.ps)) 0
theorem pageBk_length {b : BV} (h : 8 + szP b.ps ≤ 240) : (pageBk b).length = 240 := by
  unfold pageBk
  rw [List.length_append, List.length_append, bkHeadL_length, pairsL_length, List.length_replicate]
  omega
/-- Put. -/
def putBk (b : BV) : List Int × Int := if mayBk b = true then (pageBk b, 0) else ([], 1)
end Go.Proofs.Ythpgcdfbngngjaa
