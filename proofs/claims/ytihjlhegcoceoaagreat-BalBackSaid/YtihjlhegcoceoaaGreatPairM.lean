/-
  Words for a list of pairs as it lies in memory (each a key and a value, slices of bytes); what keeps it. Plain facts; no condition beyond what each says.
-/
import Derived.Test.YtihjlhegcoceoaaGreatBase
import Derived.Deep.Slices
import Derived.Deep.Fields
import Derived.ChangeSame
import Derived.ProofKit
namespace Go.Proofs.YtihjlhegcoceoaaGreat
open Go.RowKit
set_option maxRecDepth 100000
set_option linter.unusedVariables false

/-- A key with its value. -/
abbrev KV := List Int × List Int

/-- A pair at some place, below block B. -/
def PairAt (w : World) (B b off : Nat) (x : KV) : Prop :=
  ∃ (ka : Option Addr) (kn kc : Nat) (va : Option Addr) (vn vc : Nat), w.cell? ⟨b, off, none⟩ = some (.slice ka kn kc) ∧ w.cell? ⟨b, off + 1, none⟩ = some (.slice va vn vc) ∧ RB w B ka kn x.1 ∧ (kn ≤ kc ∧ kn ≤ maxLen) ∧ RB w B va vn x.2 ∧ (vn ≤ vc ∧ vn ≤ maxLen)
/-- The slice at A of n pairs reads as the list ps in w, and lies below block B. -/
def RPairs (w : World) (B : Nat) (A : Option Addr) (n : Nat) (ps : List KV) : Prop :=
  ps.length = n ∧ (0 < n → ∃ b off, A = some ⟨b, off, none⟩ ∧ b < B ∧ ∀ j x, ps[j]? = some x → PairAt w B b (off + j * 2) x)

section
variable {w w' : World} {B B' n : Nat} {A : Option Addr} {ps : List KV}
theorem PairAt.keep {b off : Nat} {x : KV} (h : PairAt w B b off x) (hb : b < B) (hk : ∀ b o, b < B → w'.cell? ⟨b, o, none⟩ = w.cell? ⟨b, o, none⟩) : PairAt w' B b off x := by
  obtain ⟨ka, kn, kc, va, vn, vc, h0, h1, h2, h3, h4, h5⟩ := h
  exact ⟨ka, kn, kc, va, vn, vc, (hk _ _ hb).trans h0, (hk _ _ hb).trans h1, h2.keep hk, h3, h4.keep hk, h5⟩
theorem PairAt.more {b off : Nat} {x : KV} (h : PairAt w B b off x) (hB : B ≤ B') : PairAt w B' b off x := by
  obtain ⟨ka, kn, kc, va, vn, vc, h0, h1, h2, h3, h4, h5⟩ := h
  exact ⟨ka, kn, kc, va, vn, vc, h0, h1, h2.more hB, h3, h4.more hB, h5⟩
theorem RPairs.nil_ : RPairs w B A 0 [] := ⟨rfl, fun h => absurd h (by omega)⟩
theorem RPairs.len (h : RPairs w B A n ps) : ps.length = n := h.1
theorem RPairs.keep (h : RPairs w B A n ps) (hk : ∀ b o, b < B → w'.cell? ⟨b, o, none⟩ = w.cell? ⟨b, o, none⟩) : RPairs w' B A n ps :=
  ⟨h.1, fun hn => by
    obtain ⟨b, off, e, hb, hc⟩ := h.2 hn
    exact ⟨b, off, e, hb, fun j x hx => (hc j x hx).keep hb hk⟩⟩
theorem RPairs.more (h : RPairs w B A n ps) (hB : B ≤ B') : RPairs w B' A n ps :=
  ⟨h.1, fun hn => by
    obtain ⟨b, off, e, hb, hc⟩ := h.2 hn
    exact ⟨b, off, e, by omega, fun j x hx => (hc j x hx).more hB⟩⟩
theorem RPairs.below (h : RPairs w B A n ps) (hb : Below B w w') : RPairs w' B A n ps := h.keep fun b o hp => hb.cell (p := ⟨b, o, none⟩) hp
theorem RPairs.drew (h : RPairs w B A n ps) : RPairs w.drew B A n ps := h.keep fun _ _ _ => rfl
theorem RPairs.alloc (h : RPairs w B A n ps) (hB : B ≤ w.heap.size) (o : Obj) : RPairs (w.alloc o) B A n ps := h.keep fun b o' hp => World.cell?_alloc_lt w o ⟨b, o', none⟩ (by simp; omega)
end

end Go.Proofs.YtihjlhegcoceoaaGreat
