/-
  A list whose elements take some cells each and lead to memory, in a row that a call builds by append: what keeps it, how it grows, how it is read; pairs and texts as such lists. Condition of an append: fewer than 2^32 elements.
-/
import Derived.Test.YtbhjmplhmoikbaaGreatViewA
import Derived.Test.YtbhjmplhmoikbaaGreatPairM
import Derived.Test.YtbhjmplhmoikbaaGreatGen
import Derived.Maps.AppendAt
import Derived.Deep.AppendLies
namespace Go.Proofs.YtbhjmplhmoikbaaGreat
open Go.RowKit
set_option maxRecDepth 100000
set_option linter.unusedVariables false

theorem info_pairG : (Tryz.prog.info? 42).map (fun i => (i.zero, i.size, i.bytes)) = some (some (.agg #[.slice none 0 0, .slice none 0 0]), 2, 48) := by kernel_rfl
theorem info_sliceG : (Tryz.prog.info? 32).map (fun i => (i.zero, i.size, i.bytes)) = some (some (.slice none 0 0), 1, 24) := by kernel_rfl

/-! ### pairs, and texts -/
/-- A pair as it lies. -/
abbrev kvOf (p : Txt × List Int) : KV := (by_ p.1, p.2)
/-- The cells of a pair. -/
def PairR (w : World) (Y : Nat → Prop) (us : List Value) (x : KV) : Prop := ∃ u1 u2, us = [u1, u2] ∧ SV w Y u1 x.1 ∧ SV w Y u2 x.2
theorem pairR_kept : KeptL PairR := by
  intro w w' Y Y' us x h hs hY hk
  obtain ⟨u1, u2, e, h1, h2⟩ := h
  exact ⟨u1, u2, e, h1.keep hs hY hk, h2.keep hs hY hk⟩
/-- The cell of a text. -/
def TextR (w : World) (Y : Nat → Prop) (us : List Value) (x : List Int) : Prop := ∃ u, us = [u] ∧ SV w Y u x
theorem textR_kept : KeptL TextR := by
  intro w w' Y Y' us x h hs hY hk
  obtain ⟨u, e, h1⟩ := h
  exact ⟨u, e, h1.keep hs hY hk⟩
/-- A text at some place, below block B; some of them. -/
def TextAt (w : World) (B b off : Nat) (x : List Int) : Prop :=
  ∃ (ka : Option Addr) (kn kc : Nat), w.cell? ⟨b, off, none⟩ = some (.slice ka kn kc) ∧ RB w B ka kn x ∧ kn ≤ kc ∧ kn ≤ maxLen
def RTexts (w : World) (B : Nat) (A : Option Addr) (n : Nat) (ts : List (List Int)) : Prop :=
  ts.length = n ∧ (0 < n → ∃ b off, A = some ⟨b, off, none⟩ ∧ b < B ∧ ∀ j x, ts[j]? = some x → TextAt w B b (off + j) x)
section
variable {w w' : World} {B B' n : Nat} {A : Option Addr} {ts : List (List Int)}
theorem TextAt.keep {b off : Nat} {x : List Int} (h : TextAt w B b off x) (hb : b < B) (hk : ∀ b o, b < B → w'.cell? ⟨b, o, none⟩ = w.cell? ⟨b, o, none⟩) : TextAt w' B b off x := by
  obtain ⟨ka, kn, kc, h0, h2, h3⟩ := h
  exact ⟨ka, kn, kc, (hk _ _ hb).trans h0, h2.keep hk, h3⟩
theorem TextAt.more {b off : Nat} {x : List Int} (h : TextAt w B b off x) (hB : B ≤ B') : TextAt w B' b off x := by
  obtain ⟨ka, kn, kc, h0, h2, h3⟩ := h
  exact ⟨ka, kn, kc, h0, h2.more hB, h3⟩
theorem RTexts.nil_ : RTexts w B A 0 [] := ⟨rfl, fun h => absurd h (by omega)⟩
theorem RTexts.len (h : RTexts w B A n ts) : ts.length = n := h.1
theorem RTexts.keep (h : RTexts w B A n ts) (hk : ∀ b o, b < B → w'.cell? ⟨b, o, none⟩ = w.cell? ⟨b, o, none⟩) : RTexts w' B A n ts :=
  ⟨h.1, fun hn => by
    obtain ⟨b, off, e, hb, hc⟩ := h.2 hn
    exact ⟨b, off, e, hb, fun j x hx => (hc j x hx).keep hb hk⟩⟩
theorem RTexts.more (h : RTexts w B A n ts) (hB : B ≤ B') : RTexts w B' A n ts :=
  ⟨h.1, fun hn => by
    obtain ⟨b, off, e, hb, hc⟩ := h.2 hn
    exact ⟨b, off, e, by omega, fun j x hx => (hc j x hx).more hB⟩⟩
theorem RTexts.below (h : RTexts w B A n ts) (hb : Below B w w') : RTexts w' B A n ts := h.keep fun b o hp => hb.cell (p := ⟨b, o, none⟩) hp
end
section
variable {w w' : World} {Y : Nat → Prop} {base : Nat} {A : Option Addr} {n c : Nat}
/-- How they are read. -/
theorem GRow.pairs {l : List KV} (h : GRow PairR 42 2 w Y base (.slice A n c) l) : n = l.length ∧ n ≤ c ∧ RPairs w w.heap.size A n l := by
  obtain ⟨vs, h1, h2⟩ := h.row
  rcases h1.2 with ⟨e, h0⟩ | ⟨g, cap, cur, e, hb, hg, hc, _, _, htake⟩
  · cases e
    exact ⟨h0.symm, Nat.le_refl _, h0, fun hn => absurd hn (by omega)⟩
  · cases e
    refine ⟨rfl, hc, rfl, fun hn => ⟨g, 0, rfl, (Array.getElem?_eq_some_iff.1 hg).1, fun i y hy => ?_⟩⟩
    have hi := (List.getElem?_eq_some_iff.1 hy).1
    obtain ⟨u1, u2, e3, ⟨ka, kn, kc, rfl, a1, a2, a3, _⟩, ⟨va, vn, vc, rfl, b1, b2, b3, _⟩⟩ := h2 i y hy
    have g1 : vs[i * 2]? = some (.slice ka kn kc) := by
      have : ((vs.drop (i * 2)).take 2)[0]? = some (.slice ka kn kc) := by rw [e3]; rfl
      rw [List.getElem?_take, if_pos (by decide), List.getElem?_drop] at this
      simpa using this
    have g2 : vs[i * 2 + 1]? = some (.slice va vn vc) := by
      have : ((vs.drop (i * 2)).take 2)[1]? = some (.slice va vn vc) := by rw [e3]; rfl
      rw [List.getElem?_take, if_pos (by decide), List.getElem?_drop] at this
      simpa using this
    refine ⟨ka, kn, kc, va, vn, vc, ?_, ?_, a3, ⟨a1, by unfold maxLen; omega⟩, b3, ⟨b1, by unfold maxLen; omega⟩⟩
    · rw [Nat.zero_add, cell_of_row w g (i * 2) cur _ (0, 0) hg, ← g1, ← htake, List.getElem?_take, if_pos (by omega)]
      simp
    · rw [Nat.zero_add, cell_of_row w g (i * 2 + 1) cur _ (0, 0) hg, ← g2, ← htake, List.getElem?_take, if_pos (by omega)]
      simp
theorem GRow.texts {l : List (List Int)} (h : GRow TextR 32 1 w Y base (.slice A n c) l) : n = l.length ∧ n ≤ c ∧ RTexts w w.heap.size A n l := by
  obtain ⟨vs, h1, h2⟩ := h.row
  rcases h1.2 with ⟨e, h0⟩ | ⟨g, cap, cur, e, hb, hg, hc, _, _, htake⟩
  · cases e
    exact ⟨h0.symm, Nat.le_refl _, h0, fun hn => absurd hn (by omega)⟩
  · cases e
    refine ⟨rfl, hc, rfl, fun hn => ⟨g, 0, rfl, (Array.getElem?_eq_some_iff.1 hg).1, fun i y hy => ?_⟩⟩
    have hi := (List.getElem?_eq_some_iff.1 hy).1
    obtain ⟨u1, e3, ⟨ka, kn, kc, rfl, a1, a2, a3, _⟩⟩ := h2 i y hy
    have g1 : vs[i]? = some (.slice ka kn kc) := by
      have : ((vs.drop (i * 1)).take 1)[0]? = some (.slice ka kn kc) := by rw [e3]; rfl
      rw [List.getElem?_take, if_pos (by decide), List.getElem?_drop] at this
      simpa using this
    refine ⟨ka, kn, kc, ?_, a3, a1, by unfold maxLen; omega⟩
    rw [Nat.zero_add, cell_of_row w g i cur _ (0, 0) hg, ← g1, ← htake, List.getElem?_take, if_pos (by omega)]
    simp
theorem GRow.append_pair {v : Value} {l : List KV} (h : GRow PairR 42 2 w Y base v l) {u1 u2 : Value} {x : KV} {b : Nat} {T : TypeId} (hu1 : SV w Y u1 x.1) (hu2 : SV w Y u2 x.2) (hb : w.heap[b]? = some (.cells #[u1, u2] T)) (hn : l.length ≤ 4294967296) (hbase : base ≤ w.heap.size) (ty : TypeId) :
    ∃ v' w', (Builtin.append_ #[36, 36] ty #[v, .slice (some ⟨b, 0, none⟩) 1 1]).run Tryz.prog w = .ok v' w' ∧ GRow PairR 42 2 w' (fun k => Y k ∨ v'.ownBlock = some k) base v' (l ++ [x]) ∧ w.grownBy w' v.ownBlock ∧ (v'.ownBlock = v.ownBlock ∨ v'.ownBlock = some w.heap.size) ∧ ∃ A c, v' = .slice A (l.length + 1) c := by
  obtain ⟨i0, hi, hz0, hz1, hz2⟩ := info_parts info_pairG
  have o1 : ∀ {u : Value} {l : List Int}, SV w Y u l → u.oneCell' = true := by rintro u l ⟨A, n, c, rfl, _⟩; rfl
  exact h.append @pairR_kept Tryz.underlying36 hi hz0 hz1 hz2 rfl (by decide) (by decide) (us := [u1, u2]) ⟨u1, u2, rfl, hu1, hu2⟩ rfl (fun u hu => by
    rcases List.mem_cons.1 hu with rfl | hu
    · exact o1 hu1
    · obtain rfl := List.mem_singleton.1 hu; exact o1 hu2) hb hn hbase
theorem GRow.append_text {v : Value} {l : List (List Int)} (h : GRow TextR 32 1 w Y base v l) {u1 : Value} {x : List Int} {b : Nat} {T : TypeId} (hu1 : SV w Y u1 x) (hb : w.heap[b]? = some (.cells #[u1] T)) (hn : l.length ≤ 4294967296) (hbase : base ≤ w.heap.size) (ty : TypeId) :
    ∃ v' w', (Builtin.append_ #[241, 241] ty #[v, .slice (some ⟨b, 0, none⟩) 1 1]).run Tryz.prog w = .ok v' w' ∧ GRow TextR 32 1 w' (fun k => Y k ∨ v'.ownBlock = some k) base v' (l ++ [x]) ∧ w.grownBy w' v.ownBlock ∧ (v'.ownBlock = v.ownBlock ∨ v'.ownBlock = some w.heap.size) ∧ ∃ A c, v' = .slice A (l.length + 1) c := by
  obtain ⟨i0, hi, hz0, hz1, hz2⟩ := info_parts info_sliceG
  exact h.append @textR_kept Tryz.underlying241 hi hz0 hz1 hz2 rfl (by decide) (by decide) (us := [u1]) ⟨u1, rfl, hu1⟩ rfl (fun u hu => by
    obtain rfl := List.mem_singleton.1 hu
    obtain ⟨A, n, c, rfl, _⟩ := hu1
    rfl) hb hn hbase
end

end Go.Proofs.YtbhjmplhmoikbaaGreat
