/-
  The plain disk of the statements as it lies in memory, and which disk that is. Plain facts; no condition beyond what each says.
-/
import Derived.Test.YtkpopdoigkcpgaaDiskSafeP
import Derived.Deep.OwnRows
namespace Go.Proofs.Ytkpopdoigkcpgaa
open Go.RowKit
set_option linter.unusedVariables false

/-- The how many-th a sector was that was written first since, or 0. -/
def turnOf (l : List Nat) (i : Nat) : Nat := if i ∈ l then l.idxOf i + 1 else 0
theorem turnOf_no {l : List Nat} {i : Nat} (h : i ∉ l) : turnOf l i = 0 := if_neg h
theorem turnOf_pos {l : List Nat} {i : Nat} : 0 < turnOf l i ↔ i ∈ l := by
  unfold turnOf
  by_cases h : i ∈ l <;> simp [h]
theorem turnOf_le (l : List Nat) (i : Nat) : turnOf l i ≤ l.length := by
  unfold turnOf
  split
  · rename_i h; exact List.idxOf_lt_length_of_mem h
  · exact Nat.zero_le _
theorem turnOf_add {l : List Nat} {i : Nat} (hi : i ∉ l) (j : Nat) : turnOf (l ++ [i]) j = if j = i then l.length + 1 else turnOf l j := by
  unfold turnOf
  by_cases e : j = i
  · subst e
    rw [if_pos (by simp), if_pos rfl, List.idxOf_append, if_neg hi]
    simp
  · rw [if_neg e]
    by_cases h : j ∈ l
    · rw [if_pos (by simp [h]), if_pos h, List.idxOf_append, if_pos h]
    · rw [if_neg (by simp [h, e]), if_neg h]
theorem turnOf_get {l : List Nat} (hnd : l.Nodup) (t i : Nat) : l[t]? = some i ↔ turnOf l i = t + 1 := by
  unfold turnOf
  constructor
  · intro h
    obtain ⟨ht, e⟩ := List.getElem?_eq_some_iff.1 h
    have hm : i ∈ l := by rw [← e]; exact List.getElem_mem ht
    rw [if_pos hm]
    have h1 : l.idxOf i < l.length := List.idxOf_lt_length_of_mem hm
    have h2 : l[l.idxOf i] = i := List.getElem_idxOf h1
    have := (List.getElem_inj (h₀ := h1) (h₁ := ht) hnd).1 (h2.trans e.symm)
    omega
  · intro h
    by_cases hm : i ∈ l
    · rw [if_pos hm] at h
      have h1 : l.idxOf i < l.length := List.idxOf_lt_length_of_mem hm
      have e : t = l.idxOf i := by omega
      subst e
      rw [List.getElem?_eq_getElem h1, List.getElem_idxOf h1]
    · rw [if_neg hm] at h; omega

theorem DS.Ok.pend_len {S : DS} (h : S.Ok) : S.pend.length ≤ S.n := nodup_lt S.n S.pend h.pendNodup h.pendLt

/-- A sector's bytes behind a value: none (noughts), or 256 of a block of G's own. -/
def SecV (w : World) (G : Nat → Prop) (gx gl : Nat) (v : Value) (l : List Int) : Prop :=
  (v = .slice none 0 0 ∧ l = nought) ∨ ∃ (b off c : Nat), v = .slice (some ⟨b, off, none⟩) 256 c ∧ 256 ≤ c ∧ G b ∧ b ≠ gx ∧ b ≠ gl ∧ ∀ j, j < 256 → w.cell? ⟨b, off + j, none⟩ = some (.int .u8 (l[j]?.getD 0))

theorem SecV.keep {w w' : World} {G G' : Nat → Prop} {gx gl : Nat} {v : Value} {l : List Int} (h : SecV w G gx gl v l) (hG : ∀ k, G k → G' k) (hk : ∀ b o, G b → b ≠ gx → b ≠ gl → w'.cell? ⟨b, o, none⟩ = w.cell? ⟨b, o, none⟩) : SecV w' G' gx gl v l := by
  rcases h with h | ⟨b, off, c, e, hc, hb, h1, h2, hcell⟩
  · exact .inl h
  · exact .inr ⟨b, off, c, e, hc, hG b hb, h1, h2, fun j hj => (hk b _ hb h1 h2).trans (hcell j hj)⟩
theorem SecV.shape {w : World} {G : Nat → Prop} {gx gl : Nat} {v : Value} {l : List Int} (h : SecV w G gx gl v l) : ∃ A n c, v = .slice A n c := by
  rcases h with ⟨e, _⟩ | ⟨b, off, c, e, _⟩
  · exact ⟨_, _, _, e⟩
  · exact ⟨_, _, _, e⟩

/-- The plain disk in memory: its head at gx, its sectors at gl. -/
def Ref0 (w : World) (G : Nat → Prop) (gx gl : Nat) (hd : Nat → Value) (n : Nat) (sf lf : Nat → List Int) (tf : Nat → Nat) : Prop :=
  gx ≠ gl ∧ G gx ∧ G gl ∧ w.rowIs gx 41 6 hd ∧ ∃ f, w.rowIs gl 67 (n * 3) f ∧ (∀ i, i < n → SecV w G gx gl (f (i * 3)) (sf i) ∧ SecV w G gx gl (f (i * 3 + 1)) (lf i) ∧ f (i * 3 + 2) = .int .i64 (tf i)) ∧ ∀ k, G k → k < w.heap.size

def refHead (gl : Nat) (S : DS) : Nat → Value
  | 0 => .slice (some ⟨gl, 0, none⟩) S.n S.n
  | 1 => .int .i64 S.pend.length
  | 2 => .int .i64 S.writes
  | 3 => .int .i64 (S.arm.getD 0 : Nat)
  | 4 => .bool S.arm.isSome
  | _ => .bool S.down

/-- In w the plain disk S lies at x, in the blocks of G. -/
def RefAt (w : World) (G : Nat → Prop) (x : Addr) (S : DS) : Prop :=
  ∃ gx gl, x = ⟨gx, 0, none⟩ ∧ Ref0 w G gx gl (refHead gl S) S.n S.safe S.last (turnOf S.pend) ∧ S.Ok ∧ S.arm.getD 0 ≤ 9223372036854775807

section
variable {w w' : World} {G : Nat → Prop} {gx gl n : Nat} {hd : Nat → Value} {sf lf : Nat → List Int} {tf : Nat → Nat}

theorem Ref0.keep (h : Ref0 w G gx gl hd n sf lf tf) (hk : ∀ k, G k → w'.heap[k]? = w.heap[k]?) : Ref0 w' G gx gl hd n sf lf tf := by
  obtain ⟨h1, h2, h3, h4, f, h5, h6, h7⟩ := h
  refine ⟨h1, h2, h3, h4.of_block (hk _ h2), f, h5.of_block (hk _ h3), fun i hi => ?_, fun k hg => ?_⟩
  · obtain ⟨a, b, c⟩ := h6 i hi
    have hc : ∀ b o, G b → b ≠ gx → b ≠ gl → w'.cell? ⟨b, o, none⟩ = w.cell? ⟨b, o, none⟩ := fun b o hb _ _ => World.cell?_of_block (w := w) (hk b hb)
    exact ⟨a.keep (fun _ h => h) hc, b.keep (fun _ h => h) hc, c⟩
  · have hlt := h7 k hg
    rcases Nat.lt_or_ge k w'.heap.size with h | h
    · exact h
    · have := hk k hg
      rw [Array.getElem?_eq_none h, Array.getElem?_eq_getElem hlt] at this
      cases this
theorem Ref0.lt (h : Ref0 w G gx gl hd n sf lf tf) : ∀ k, G k → k < w.heap.size := by
  obtain ⟨_, _, _, _, f, _, _, h7⟩ := h
  exact h7
theorem RefAt.keep {x : Addr} {S : DS} (h : RefAt w G x S) (hk : ∀ k, G k → w'.heap[k]? = w.heap[k]?) : RefAt w' G x S := by
  obtain ⟨gx, gl, e, h0, hok, ha⟩ := h
  exact ⟨gx, gl, e, h0.keep hk, hok, ha⟩
theorem RefAt.lt {x : Addr} {S : DS} (h : RefAt w G x S) : ∀ k, G k → k < w.heap.size := by
  obtain ⟨gx, gl, e, h0, hok, ha⟩ := h
  exact h0.lt

/-- A store into the head. -/
theorem Ref0.head (h : Ref0 w G gx gl hd n sf lf tf) (o : Nat) (v : Value) : Ref0 (w.setCell ⟨gx, o, none⟩ v) G gx gl (fun j => if j = o then v else hd j) n sf lf tf := by
  obtain ⟨h1, h2, h3, h4, f, h5, h6, h7⟩ := h
  refine ⟨h1, h2, h3, h4.set o v, f, h5.setOther (a := ⟨gx, o, none⟩) (fun e => h1 e.symm) v, fun i hi => ?_, fun k hg => by simpa using h7 k hg⟩
  obtain ⟨a, b, c⟩ := h6 i hi
  have hc : ∀ b o', G b → b ≠ gx → b ≠ gl → (w.setCell ⟨gx, o, none⟩ v).cell? ⟨b, o', none⟩ = w.cell? ⟨b, o', none⟩ := fun b o' _ hb _ => World.cell?_of_block (w := w) (Below.heap_setCell w ⟨gx, o, none⟩ v b hb)
  exact ⟨a.keep (fun _ h => h) hc, b.keep (fun _ h => h) hc, c⟩
theorem Ref0.congrHead (h : Ref0 w G gx gl hd n sf lf tf) {hd' : Nat → Value} (e : ∀ i, i < 6 → hd i = hd' i) : Ref0 w G gx gl hd' n sf lf tf := by
  obtain ⟨h1, h2, h3, h4, rest⟩ := h
  exact ⟨h1, h2, h3, h4.congr e, rest⟩
theorem Ref0.congr (h : Ref0 w G gx gl hd n sf lf tf) {sf' lf' : Nat → List Int} {tf' : Nat → Nat} (e : ∀ i, i < n → sf i = sf' i ∧ lf i = lf' i ∧ tf i = tf' i) : Ref0 w G gx gl hd n sf' lf' tf' := by
  obtain ⟨h1, h2, h3, h4, f, h5, h6, h7⟩ := h
  refine ⟨h1, h2, h3, h4, f, h5, fun i hi => ?_, h7⟩
  obtain ⟨e1, e2, e3⟩ := e i hi
  rw [← e1, ← e2, ← e3]
  exact h6 i hi

theorem Ref0.store (h : Ref0 w G gx gl hd n sf lf tf) {q : Nat} (hq : q < n * 3) (v : Value) {sf' lf' : Nat → List Int} {tf' : Nat → Nat}
    (hs : ∀ i, i < n → i * 3 ≠ q → sf' i = sf i) (hl : ∀ i, i < n → i * 3 + 1 ≠ q → lf' i = lf i) (ht : ∀ i, i < n → i * 3 + 2 ≠ q → tf' i = tf i)
    (hs' : ∀ i, i < n → i * 3 = q → SecV w G gx gl v (sf' i)) (hl' : ∀ i, i < n → i * 3 + 1 = q → SecV w G gx gl v (lf' i)) (ht' : ∀ i, i < n → i * 3 + 2 = q → v = .int .i64 (tf' i)) :
    Ref0 (w.setCell ⟨gl, q, none⟩ v) G gx gl hd n sf' lf' tf' := by
  obtain ⟨h1, h2, h3, h4, f, h5, h6, h7⟩ := h
  have hc : ∀ b o', G b → b ≠ gx → b ≠ gl → (w.setCell ⟨gl, q, none⟩ v).cell? ⟨b, o', none⟩ = w.cell? ⟨b, o', none⟩ := fun b o' _ _ hb => World.cell?_of_block (w := w) (Below.heap_setCell w ⟨gl, q, none⟩ v b hb)
  refine ⟨h1, h2, h3, h4.setOther (a := ⟨gl, q, none⟩) h1 v, _, h5.set q v, fun i hi => ?_, fun k hg => by simpa using h7 k hg⟩
  obtain ⟨a, b, c⟩ := h6 i hi
  refine ⟨?_, ?_, ?_⟩
  · by_cases e : i * 3 = q
    · rw [if_pos e]; exact (hs' i hi e).keep (fun _ h => h) hc
    · rw [if_neg e, hs i hi e]; exact a.keep (fun _ h => h) hc
  · by_cases e : i * 3 + 1 = q
    · rw [if_pos e]; exact (hl' i hi e).keep (fun _ h => h) hc
    · rw [if_neg e, hl i hi e]; exact b.keep (fun _ h => h) hc
  · by_cases e : i * 3 + 2 = q
    · rw [if_pos e]; exact ht' i hi e
    · rw [if_neg e, ht i hi e]; exact c

theorem Ref0.setSafe (h : Ref0 w G gx gl hd n sf lf tf) {i : Nat} (hi : i < n) {v : Value} {l : List Int} (hv : SecV w G gx gl v l) : Ref0 (w.setCell ⟨gl, i * 3, none⟩ v) G gx gl hd n (fun k => if k = i then l else sf k) lf tf := by
  refine h.store (by omega) v (fun k _ hk => if_neg (by omega)) (fun k _ _ => rfl) (fun k _ _ => rfl) (fun k _ hk => ?_) (fun k _ hk => by omega) (fun k _ hk => by omega)
  rw [if_pos (by omega)]; exact hv
theorem Ref0.setLast (h : Ref0 w G gx gl hd n sf lf tf) {i : Nat} (hi : i < n) {v : Value} {l : List Int} (hv : SecV w G gx gl v l) : Ref0 (w.setCell ⟨gl, i * 3 + 1, none⟩ v) G gx gl hd n sf (fun k => if k = i then l else lf k) tf := by
  refine h.store (by omega) v (fun k _ _ => rfl) (fun k _ hk => if_neg (by omega)) (fun k _ _ => rfl) (fun k _ hk => by omega) (fun k _ hk => ?_) (fun k _ hk => by omega)
  rw [if_pos (by omega)]; exact hv
theorem Ref0.setTurn (h : Ref0 w G gx gl hd n sf lf tf) {i : Nat} (hi : i < n) (t : Nat) : Ref0 (w.setCell ⟨gl, i * 3 + 2, none⟩ (.int .i64 t)) G gx gl hd n sf lf (fun k => if k = i then t else tf k) := by
  refine h.store (by omega) _ (fun k _ _ => rfl) (fun k _ _ => rfl) (fun k _ hk => if_neg (by omega)) (fun k _ hk => by omega) (fun k _ hk => by omega) (fun k _ hk => ?_)
  rw [if_pos (by omega)]

/-- A new block for a sector's bytes. -/
theorem Ref0.grow (h : Ref0 w G gx gl hd n sf lf tf) (hb : Below w.heap.size w w') {G' : Nat → Prop} (hG : ∀ k, G k → G' k) (hG' : ∀ k, G' k → k < w'.heap.size) : Ref0 w' G' gx gl hd n sf lf tf := by
  have hlt := h.lt
  obtain ⟨h1, h2, h3, h4, f, h5, h6, h7⟩ := h
  refine ⟨h1, hG _ h2, hG _ h3, h4.of_block (hb.block _ (hlt _ h2)), f, h5.of_block (hb.block _ (hlt _ h3)), fun i hi => ?_, hG'⟩
  obtain ⟨a, b, c⟩ := h6 i hi
  have hc : ∀ b o, G b → b ≠ gx → b ≠ gl → w'.cell? ⟨b, o, none⟩ = w.cell? ⟨b, o, none⟩ := fun b o hb' _ _ => World.cell?_of_block (w := w) (hb.block _ (hlt _ hb'))
  exact ⟨a.keep hG hc, b.keep hG hc, c⟩
end

end Go.Proofs.Ytkpopdoigkcpgaa
