/-
  Words for a list of pairs while it is built by append (rows of two cells each); what keeps it; how it is read; append of one pair. Plain facts; no condition beyond what each says.
-/
import Derived.Test.YthpgcdfbngngjaaBkG
import Derived.Maps.AppendAt
import Derived.Deep.AppendLies
namespace Go.Proofs.Ythpgcdfbngngjaa
open Go.RowKit
set_option maxRecDepth 100000
set_option linter.unusedVariables false

theorem info_pair : (Try.prog.info? 48).map (fun i => (i.zero, i.size, i.bytes)) = some (some (.agg #[.slice none 0 0, .slice none 0 0]), 2, 48) := by kernel_rfl

theorem bkOwnAt {w : World} {base e size m : Nat} {v : Value} {xs : List Value} (h : w.ownsRow base e size v m xs) : ∀ g, v.ownBlock = some g → base ≤ g ∧ g < w.heap.size := by
  intro g hg
  rcases h.2 with ⟨rfl, _⟩ | ⟨g', cap, cur, rfl, hb, hh, _⟩
  · simp [Value.ownBlock] at hg
  · simp [Value.ownBlock] at hg
    subst hg
    exact ⟨hb, (Array.getElem?_eq_some_iff.1 hh).1⟩
theorem bkOwnStays {w w' : World} {base e size m : Nat} {v : Value} {xs : List Value} (h : w.ownsRow base e size v m xs) (hk : ∀ g, v.ownBlock = some g → w'.heap[g]? = w.heap[g]?) : w'.ownsRow base e size v m xs := by
  rcases h.2 with h' | ⟨g, cap, cur, rfl, hg, hb, h3⟩
  · exact ⟨h.1, .inl h'⟩
  · exact ⟨h.1, .inr ⟨g, cap, cur, rfl, hg, (hk g (by simp [Value.ownBlock])).trans hb, h3⟩⟩

/-- A slice of bytes apart from the blocks F and from a row. -/
def KFar (w : World) (F : Nat → Prop) (v : Value) (A : Option Addr) (n c : Nat) (l : List Int) : Prop :=
  n ≤ c ∧ n ≤ maxLen ∧ RB w w.heap.size A n l ∧ ∀ a, A = some a → 0 < n → ¬ F a.block ∧ v.ownBlock ≠ some a.block
/-- The list l of pairs, in a row from block base on, apart from the blocks F. -/
structure KRow (w : World) (F : Nat → Prop) (base : Nat) (v : Value) (l : List KV) : Prop where
  row : ∃ vs, w.ownsRow base 48 2 v l.length vs ∧ ∀ (i : Nat) (x : KV), l[i]? = some x → ∃ (ka : Option Addr) (kn kc : Nat) (va : Option Addr) (vn vc : Nat), vs[i * 2]? = some (.slice ka kn kc) ∧ vs[i * 2 + 1]? = some (.slice va vn vc) ∧ KFar w F v ka kn kc x.1 ∧ KFar w F v va vn vc x.2
  out : ∀ r, v.ownBlock = some r → ¬ F r

section
variable {w w' : World} {F F' : Nat → Prop} {base : Nat} {v : Value} {l : List KV}

theorem KRow.start (w : World) (F : Nat → Prop) (base : Nat) : KRow w F base (.slice none 0 0) [] :=
  ⟨⟨[], ⟨rfl, .inl ⟨rfl, rfl⟩⟩, fun i x h => by simp at h⟩, fun r h => by simp [Value.ownBlock] at h⟩
theorem KFar.keep {A : Option Addr} {n c : Nat} {b : List Int} (h : KFar w F v A n c b) (hs : w.heap.size ≤ w'.heap.size) (hF : ∀ k, k < w.heap.size → ¬ F k → ¬ F' k) (hk : ∀ k, k < w.heap.size → ¬ F k → v.ownBlock ≠ some k → w'.heap[k]? = w.heap[k]?) : KFar w' F' v A n c b := by
  obtain ⟨h1, h2, h3, h4⟩ := h
  refine ⟨h1, h2, ⟨h3.1, h3.2.1, fun hn => ?_⟩, fun a ha hn => ?_⟩
  · obtain ⟨bb, o, e, hbb, hc⟩ := h3.2.2 hn
    obtain ⟨q1, q2⟩ := h4 _ e hn
    exact ⟨bb, o, e, Nat.lt_of_lt_of_le hbb hs, fun j hj => (World.cell?_of_block (a := ⟨bb, o + j, none⟩) (hk bb hbb q1 q2)).trans (hc j hj)⟩
  · obtain ⟨bb, o, e, hbb, hc⟩ := h3.2.2 hn
    obtain ⟨q1, q2⟩ := h4 a ha hn
    rw [e] at ha
    cases ha
    exact ⟨hF _ hbb q1, q2⟩
/-- Blocks that are not F's, and were there, stand. -/
theorem KRow.keep (h : KRow w F base v l) (hs : w.heap.size ≤ w'.heap.size) (hF : ∀ k, k < w.heap.size → ¬ F k → ¬ F' k) (hk : ∀ k, k < w.heap.size → ¬ F k → w'.heap[k]? = w.heap[k]?) : KRow w' F' base v l := by
  obtain ⟨vs, h1, h2⟩ := h.row
  refine ⟨⟨vs, bkOwnStays h1 (fun g hg => hk g (bkOwnAt h1 g hg).2 (h.out g hg)), fun i x hx => ?_⟩, fun r hr => hF r (bkOwnAt h1 r hr).2 (h.out r hr)⟩
  obtain ⟨ka, kn, kc, va, vn, vc, h3, h4, h5, h6⟩ := h2 i x hx
  exact ⟨ka, kn, kc, va, vn, vc, h3, h4, h5.keep hs hF (fun k hk1 hk2 _ => hk k hk1 hk2), h6.keep hs hF (fun k hk1 hk2 _ => hk k hk1 hk2)⟩
theorem KRow.below (h : KRow w F base v l) (hb : Below w.heap.size w w') : KRow w' F base v l := h.keep hb.size (fun _ _ h => h) (fun k hk _ => hb.block k hk)
theorem KRow.setCell (h : KRow w F base v l) {p : Addr} (hp : F p.block) (u : Value) : KRow (w.setCell p u) F base v l :=
  h.keep (by simp [World.setCell]) (fun _ _ h => h) (fun k _ hf => Below.heap_setCell _ _ _ _ (fun e => hf (by rw [e]; exact hp)))

/-- The list has one more: new blocks are laid ahead of the append. -/
theorem KRow.push {X w1 : World} {v' : Value} {ka va : Option Addr} {kn kc vn vc : Nat} {x : KV} (h : KRow w F base v l) (hFlt : ∀ k, F k → k < w.heap.size) (hu : KFar w F v ka kn kc x.1) (hu2 : KFar w F v va vn vc x.2) {vs : List Value} (hvs : w.ownsRow base 48 2 v l.length vs) (hvl : ∀ (i : Nat) (x : KV), l[i]? = some x → ∃ (ka : Option Addr) (kn kc : Nat) (va : Option Addr) (vn vc : Nat), vs[i * 2]? = some (.slice ka kn kc) ∧ vs[i * 2 + 1]? = some (.slice va vn vc) ∧ KFar w F v ka kn kc x.1 ∧ KFar w F v va vn vc x.2)
    (hX : Below w.heap.size w X) (hown : w1.ownsRow base 48 2 v' (l.length + 1) (vs ++ [.slice ka kn kc, .slice va vn vc])) (hg : X.grownBy w1 v.ownBlock) (hl : v'.ownBlock = v.ownBlock ∨ ∃ r, v'.ownBlock = some r ∧ w.heap.size ≤ r) :
    KRow w1 F base v' (l ++ [x]) ∧ w.heap.size ≤ w1.heap.size ∧ ∀ k, k < w.heap.size → v.ownBlock ≠ some k → w1.heap[k]? = w.heap[k]? := by
  have hs : w.heap.size ≤ w1.heap.size := Nat.le_trans hX.size hg.size
  have hall : ∀ k, k < w.heap.size → v.ownBlock ≠ some k → w1.heap[k]? = w.heap[k]? := fun k hk hne => (hg.block k (Nat.lt_of_lt_of_le hk hX.size) (fun e => hne e.symm)).trans (hX.block k hk)
  have far : ∀ {A : Option Addr} {n c : Nat} {y : List Int}, KFar w F v A n c y → KFar w1 F v' A n c y := fun {A n c y} ha => by
    obtain ⟨h1, h2, h3, h4⟩ := ha.keep (w' := w1) (F' := F) hs (fun _ _ h => h) (fun k hk1 _ hk3 => hall k hk1 hk3)
    refine ⟨h1, h2, h3, fun a hA hn => ⟨(h4 a hA hn).1, fun e => ?_⟩⟩
    rcases hl with q | ⟨rr, q, hrr⟩
    · exact (h4 a hA hn).2 (q.symm.trans e)
    · rw [q] at e
      injection e with e
      obtain ⟨bb, o, e2, hbb, _⟩ := ha.2.2.1.2.2 hn
      rw [e2] at hA
      cases hA
      have : rr = bb := e
      omega
  have hlen : (l ++ [x]).length = l.length + 1 := by simp
  have hvlen : vs.length = l.length * 2 := hvs.1
  refine ⟨⟨⟨vs ++ [.slice ka kn kc, .slice va vn vc], by rw [hlen]; exact hown, fun i y hy => ?_⟩, fun r hr => ?_⟩, hs, hall⟩
  · rcases Nat.lt_or_ge i l.length with hi | hi
    · rw [List.getElem?_append_left hi] at hy
      obtain ⟨ka', kn', kc', va', vn', vc', h3, h4, h5, h6⟩ := hvl i y hy
      exact ⟨ka', kn', kc', va', vn', vc', by rw [List.getElem?_append_left (by omega)]; exact h3, by rw [List.getElem?_append_left (by omega)]; exact h4, far h5, far h6⟩
    · rw [List.getElem?_append_right hi] at hy
      have hi0 : i - l.length = 0 := by
        have := (List.getElem?_eq_some_iff.1 hy).1
        simp at this
        omega
      rw [hi0] at hy
      obtain rfl : x = y := by simpa using hy
      obtain rfl : i = l.length := by omega
      refine ⟨ka, kn, kc, va, vn, vc, ?_, ?_, far hu, far hu2⟩
      · rw [List.getElem?_append_right (by omega), hvlen, Nat.sub_self]; rfl
      · rw [List.getElem?_append_right (by omega), hvlen, show l.length * 2 + 1 - l.length * 2 = 1 by omega]; rfl
  · rcases hl with a | ⟨rr, a, hrr⟩
    · exact h.out r (a.symm.trans hr)
    · rw [a] at hr
      injection hr with hr
      intro hf
      have := hFlt r hf
      omega

theorem KRow.shape (h : KRow w F base v l) : ∃ A c, v = .slice A l.length c ∧ l.length ≤ c := by
  obtain ⟨vs, h1, h2⟩ := h.row
  rcases h1.2 with ⟨rfl, h0⟩ | ⟨g, cap, cur, rfl, hb, hg, hc, _⟩
  · rw [h0]; exact ⟨none, 0, rfl, Nat.le_refl _⟩
  · exact ⟨_, cap, rfl, hc⟩
/-- How it is read. -/
theorem KRow.pairs {A : Option Addr} {n c : Nat} (h : KRow w F base (.slice A n c) l) : n = l.length ∧ n ≤ c ∧ RPairs w w.heap.size A n l := by
  obtain ⟨vs, h1, h2⟩ := h.row
  rcases h1.2 with ⟨e, h0⟩ | ⟨g, cap, cur, e, hb, hg, hc, _, _, htake⟩
  · cases e
    exact ⟨h0.symm, Nat.le_refl _, h0, fun hn => absurd hn (by omega)⟩
  · cases e
    refine ⟨rfl, hc, rfl, fun hn => ⟨g, 0, rfl, (Array.getElem?_eq_some_iff.1 hg).1, fun i y hy => ?_⟩⟩
    have hi := (List.getElem?_eq_some_iff.1 hy).1
    obtain ⟨ka, kn, kc, va, vn, vc, h3, h4, h5, h6⟩ := h2 i y hy
    refine ⟨ka, kn, kc, va, vn, vc, ?_, ?_, h5.2.2.1, ⟨h5.1, h5.2.1⟩, h6.2.2.1, ⟨h6.1, h6.2.1⟩⟩
    · rw [Nat.zero_add, cell_of_row w g (i * 2) cur _ (0, 0) hg, ← h3, ← htake, List.getElem?_take, if_pos (by omega)]
      simp
    · rw [Nat.zero_add, cell_of_row w g (i * 2 + 1) cur _ (0, 0) hg, ← h4, ← htake, List.getElem?_take, if_pos (by omega)]
      simp
end

theorem wpList_append_pair {w : World} {ops : Array Oper} {rest : List Oper} {o : Oper} {a : Act} {Q : Exit → Act → World → Prop} (hgd : o.guard = none) (s x : Operand)
    (ho : o.op = .call { callee := .builtin .append, args := #[s, x], argTypes := #[29, 29] })
    (base : Nat) (v : Value) (n : Nat) (xs : List Value) (hs : a.eval s = v) (b : Nat) (z u : Value) (T : TypeId) (hx : a.eval x = .slice (some ⟨b, 0, none⟩) 1 1)
    (hown : w.ownsRow base 48 2 v n xs) (hb : w.heap[b]? = some (.cells #[z, u] T)) (hz : z.oneCell' = true) (hu : u.oneCell' = true) (h63 : n ≤ 4294967296) (hbase : base ≤ w.heap.size)
    (h : ∀ A' c' w', w'.ownsRow base 48 2 (.slice A' (n + 1) c') (n + 1) (xs ++ [z, u]) → w.grownBy w' v.ownBlock → ((Value.slice A' (n + 1) c').ownBlock = v.ownBlock ∨ (Value.slice A' (n + 1) c').ownBlock = some w.heap.size) → wpList Try.prog ops Q rest (a.put o.dst (.slice A' (n + 1) c')) w') : wpList Try.prog ops Q (o :: rest) a w := by
  obtain ⟨i0, hi, hz0, hz1, hz2⟩ := info_parts info_pair
  refine wpList_append_own_at w hgd s x _ ho base _ i0 (.agg #[.slice none 0 0, .slice none 0 0]) 2 48 Try.underlying29 hi hz0 hz1 hz2 rfl (by decide) v n _ hs hown ⟨b, 0, none⟩ 1 1 [z, u] hx rfl (World.news_of_block (cs := #[z, u]) hb) (fun y hy => ?_) (by unfold maxLen; omega) (by omega) hbase ?_
  · rcases List.mem_cons.1 hy with rfl | hy
    · exact hz
    · obtain rfl := List.mem_singleton.1 hy; exact hu
  intro v' w' h1 h2 _ h4
  obtain ⟨g, cap, rfl, _⟩ := h1.form (Nat.succ_pos _)
  exact h _ cap w' h1 h2 h4

/-- A box with a slice set anew. -/
theorem BkBox.set2 {w : World} {g n c n' c' : Nat} {d x : Int} {A A' : Option Addr} (h : BkBox w g d x A n c) : BkBox (w.setCell ⟨g, 2, none⟩ (.slice A' n' c')) g d x A' n' c' := heap_setCell_same w g 2 _ _ (.slice A' n' c') h
theorem BkBox.store {w : World} {g n c n' c' : Nat} {d x d' x' : Int} {A A' : Option Addr} (h : BkBox w g d x A n c) : BkBox (((w.setCell ⟨g, 0, none⟩ (.int .i64 d')).setCell ⟨g, 1, none⟩ (.int .i64 x')).setCell ⟨g, 2, none⟩ (.slice A' n' c')) g d' x' A' n' c' := by
  have h1 := heap_setCell_same w g 0 _ _ (.int .i64 d') h
  have h2 := heap_setCell_same _ g 1 _ _ (.int .i64 x') h1
  exact heap_setCell_same _ g 2 _ _ (.slice A' n' c') h2
theorem BkBox.frozen {w : World} {g n c : Nat} {d x : Int} {A : Option Addr} (h : BkBox w g d x A n c) (i : Nat) : w.frozen? ⟨g, i, none⟩ = false := by
  have h' : w.heap[g]? = some (.cells #[.int .i64 d, .int .i64 x, .slice A n c] 31 (0, 0)) := h
  simp [World.frozen?, h']
theorem BkBox.apart {w : World} {g b i n c : Nat} {d x : Int} {A : Option Addr} {u : Value} (h : BkBox w b d x A n c) (hne : b ≠ g) : BkBox (w.setCell ⟨g, i, none⟩ u) b d x A n c := (Below.heap_setCell _ _ _ _ hne).trans h
end Go.Proofs.Ythpgcdfbngngjaa
