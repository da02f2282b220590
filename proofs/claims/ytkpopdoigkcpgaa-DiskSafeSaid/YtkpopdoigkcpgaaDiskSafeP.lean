/-
  Plain: what the statement on a crash asks of a disk, and arrays of sixteen bytes as they lie in memory. No condition beyond what each says.
-/
import Derived.Test.YtkpopdoigkcpgaaDiskAwake
import Derived.Test.YtkpopdoigkcpgaaIdx
namespace Go.Proofs.Ytkpopdoigkcpgaa
open Go.RowKit
set_option linter.unusedVariables false

def upd (f : Nat → Int) (q : Nat) (c : Int) : Nat → Int := fun i => if i = q then c else f i

/-- The law's disk: s tells what is safe, f what was written last, a byte a sector. -/
def SafeSt (s f : Nat → Int) (S : DS) : Prop := S.n = 16 ∧ S.down = false ∧ S.arm = none ∧ (∀ i, i < 16 → S.safe i = reps 256 (s i)) ∧ (∀ i, i < 16 → S.last i = reps 256 (f i))

theorem SafeSt.start : SafeSt (fun _ => 0) (fun _ => 0) (DS.new 16) := ⟨rfl, rfl, rfl, fun _ _ => rfl, fun _ _ => rfl⟩
theorem SafeSt.write {s f : Nat → Int} {S : DS} (h : SafeSt s f S) {q : Nat} (hq : q < 16) (c : Int) : S.writeE (q : Int) (reps 256 c) = 0 ∧ SafeSt s (upd f q c) (S.write (q : Int) (reps 256 c)) ∧ (S.write (q : Int) (reps 256 c)).writes = S.writes + 1 := by
  obtain ⟨hn, hd, ha, h1, h2⟩ := h
  have hw := DS.write_at hd (i := (q : Int)) (by omega) (reps_length 256 c) ha
  refine ⟨hw.1, ?_, by rw [hw.2]; rfl⟩
  rw [hw.2, Int.toNat_natCast]
  refine ⟨hn, hd, ?_, h1, fun i hi => ?_⟩
  · show S.arm.map (· - 1) = none
    rw [ha]; rfl
  · show (if i = q then reps 256 c else S.last i) = reps 256 (if i = q then c else f i)
    split
    · rfl
    · exact h2 i hi
theorem SafeSt.flush {s f : Nat → Int} {S : DS} (h : SafeSt s f S) : SafeSt f f S.flush ∧ S.flush.writes = S.writes := by
  obtain ⟨hn, hd, ha, h1, h2⟩ := h
  unfold DS.flush
  rw [if_neg (by rw [hd]; decide)]
  exact ⟨⟨hn, hd, ha, h2, h2⟩, rfl⟩

theorem pending_get (S : DS) (k : Nat) (hk : k < S.pend.length) : S.pending[k]?.getD 0 = ((S.pend[k] : Nat) : Int) := by
  simp [DS.pending, hk]
theorem kept_iff {S : DS} (hnd : S.pend.Nodup) (keep : List Int) (i : Nat) : S.kept keep i ↔ (0 ≤ idxI S.pending (i : Int) ∧ idxI S.pending (i : Int) ∈ keep) := by
  have hl : S.pending.length = S.pend.length := by simp [DS.pending]
  constructor
  · rintro ⟨a, ha, hm⟩
    obtain ⟨hal, hav⟩ := List.getElem?_eq_some_iff.1 ha
    have e : idxI S.pending (i : Int) = a := by
      refine idxI_hit (by omega) (fun j hj => ?_) ?_
      · rw [pending_get S j (by omega)]
        intro e
        have e' : S.pend[j] = S.pend[a] := by omega
        have := (List.getElem_inj (h₀ := by omega) (h₁ := hal) hnd).1 e'
        omega
      · rw [pending_get S a hal, hav]
    rw [e]
    exact ⟨by omega, hm⟩
  · rintro ⟨h0, hm⟩
    have hmem := (idxI_mem S.pending (i : Int)).1 h0
    have hex : ∃ k, k < S.pend.length ∧ S.pend[k]? = some i := by
      obtain ⟨x, hx, hxe⟩ := List.mem_map.1 hmem
      obtain ⟨k, hk, hke⟩ := List.getElem_of_mem hx
      refine ⟨k, hk, ?_⟩
      rw [List.getElem?_eq_getElem hk, hke]
      have : x = i := by have := hxe; simp at this; omega
      rw [this]
    obtain ⟨k, hk, hke⟩ := hex
    obtain ⟨hkl, hkv⟩ := List.getElem?_eq_some_iff.1 hke
    have e : idxI S.pending (i : Int) = k := by
      refine idxI_hit (by omega) (fun j hj => ?_) ?_
      · rw [pending_get S j (by omega)]
        intro e
        have e' : S.pend[j] = S.pend[k] := by omega
        have := (List.getElem_inj (h₀ := by omega) (h₁ := hkl) hnd).1 e'
        omega
      · rw [pending_get S k hkl, hkv]
    rw [e] at hm
    exact ⟨k, hke, hm⟩

open Classical in
theorem SafeSt.crash {s f : Nat → Int} {S : DS} (h : SafeSt s f S) (hok : S.Ok) (keep : List Int) {i : Nat} (hi : i < 16) :
    (S.crash keep).readE (i : Int) = 0 ∧ (S.crash keep).readL (i : Int) = reps 256 (if 0 ≤ idxI S.pending (i : Int) ∧ idxI S.pending (i : Int) ∈ keep then f i else s i) := by
  obtain ⟨hn, hd, ha, h1, h2⟩ := h
  have e : (S.crash keep).readE (i : Int) = 0 := by
    unfold DS.readE
    rw [if_neg (by show ¬ false = true; decide), if_pos (by show 0 ≤ (i : Int) ∧ (i : Int) < (S.n : Int); omega)]
  refine ⟨e, ?_⟩
  unfold DS.readL
  rw [if_pos e, Int.toNat_natCast]
  show (if S.kept keep i then S.last i else S.safe i) = _
  by_cases hk : S.kept keep i
  · rw [if_pos hk, if_pos ((kept_iff hok.pendNodup keep i).1 hk), h2 i hi]
  · rw [if_neg hk, if_neg (fun hc => hk ((kept_iff hok.pendNodup keep i).2 hc)), h1 i hi]

theorem nodup_lt : ∀ (N : Nat) (l : List Nat), l.Nodup → (∀ x ∈ l, x < N) → l.length ≤ N := by
  intro N
  induction N with
  | zero =>
    intro l _ h
    cases l with
    | nil => exact Nat.le_refl _
    | cons a l => exact absurd (h a (by simp)) (by omega)
  | succ N ih =>
    intro l hn h
    by_cases hm : N ∈ l
    · have h1 := ih (l.erase N) (hn.erase N) (fun x hx => by
        have := h x (List.mem_of_mem_erase hx)
        have hne : x ≠ N := fun e => by subst e; exact (List.Nodup.not_mem_erase hn) hx
        omega)
      have h2 := List.length_erase_of_mem hm
      omega
    · have := ih l hn (fun x hx => by
        have := h x hx
        have hne : x ≠ N := fun e => by subst e; exact hm hx
        omega)
      omega
theorem DS.Ok.pending_len {S : DS} (h : S.Ok) : S.pending.length ≤ S.n := by
  have := nodup_lt S.n S.pend h.pendNodup h.pendLt
  simpa [DS.pending] using this
theorem reps_byte {c : Int} (h : AllBytes (reps 256 c)) : 0 ≤ c ∧ c < 256 := h c (by unfold reps; exact List.mem_replicate.2 ⟨by decide, rfl⟩)
theorem SafeSt.bytes {s f : Nat → Int} {S : DS} (h : SafeSt s f S) (hok : S.Ok) {i : Nat} (hi : i < 16) : (0 ≤ s i ∧ s i < 256) ∧ (0 ≤ f i ∧ f i < 256) := by
  obtain ⟨hn, hd, ha, h1, h2⟩ := h
  have a := (hok.safeBytes i).2
  have b := (hok.lastBytes i).2
  rw [h1 i hi] at a
  rw [h2 i hi] at b
  exact ⟨reps_byte a, reps_byte b⟩
/-- What a call that changes a disk leaves of a slice of ints that lies apart. -/
theorem RI.touch {w w' : World} {B n : Nat} {A : Option Addr} {l : List Int} {F : Nat → Prop} (h : RI w B A n l) (ht : Touch F w w') (hB : B ≤ w.heap.size) (hA : 0 < n → ∀ a, A = some a → ¬ F a.block) : RI w' B A n l :=
  ⟨h.1, h.2.1, fun hn => by
    obtain ⟨b, off, e, hb, hc⟩ := h.2.2 hn
    refine ⟨b, off, e, hb, fun j hj => ?_⟩
    rw [World.cell?_of_block (w := w) (ht.block b (by omega) (hA hn _ e))]
    exact hc j hj⟩

/-- An array of sixteen bytes in a block. -/
def ArrAt (w : World) (g : Nat) (f : Nat → Int) : Prop := w.heap[g]? = some (.cells ((List.range 16).map fun i => Value.int .u8 (f i)).toArray 43 (0, 0))
theorem ArrAt.cell {w : World} {g : Nat} {f : Nat → Int} (h : ArrAt w g f) {q : Nat} (hq : q < 16) : w.cell? ⟨g, q, none⟩ = some (.int .u8 (f q)) := by
  rw [cell_of_row w g q _ _ (0, 0) h]
  simp [hq]
theorem ArrAt.frozen {w : World} {g : Nat} {f : Nat → Int} (h : ArrAt w g f) (q : Nat) : w.frozen? ⟨g, q, none⟩ = false := by
  unfold ArrAt at h
  simp [World.frozen?, h]
theorem ArrAt.lt {w : World} {g : Nat} {f : Nat → Int} (h : ArrAt w g f) : g < w.heap.size := World.block_lt_of_cell? _ _ (h.cell (q := 0) (by decide))
theorem ArrAt.touch {w w' : World} {g : Nat} {f : Nat → Int} {F : Nat → Prop} (h : ArrAt w g f) (ht : Touch F w w') (hF : ¬ F g) : ArrAt w' g f := (ht.block g h.lt hF).trans h
theorem ArrAt.later {w w' : World} {g : Nat} {f : Nat → Int} (h : ArrAt w g f) (hb : Below w.heap.size w w') : ArrAt w' g f := (hb.block g h.lt).trans h
theorem ArrAt.set {w : World} {g : Nat} {f : Nat → Int} (h : ArrAt w g f) {q : Nat} (hq : q < 16) (c : Int) : ArrAt (w.setCell ⟨g, q, none⟩ (.int .u8 c)) g (upd f q c) := by
  unfold ArrAt at h ⊢
  rw [heap_setCell_same w g q _ _ _ h]
  congr 2
  rw [← Array.toList_inj]
  simp only [Array.toList_setIfInBounds]
  apply List.ext_getElem
  · simp
  · intro j h1 h2
    rw [List.getElem_set]
    simp only [List.getElem_map, List.getElem_range]
    unfold upd
    split
    · rename_i e; subst e; simp
    · rename_i e
      rw [if_neg (fun h => e h.symm)]
theorem ArrAt.other {w : World} {g : Nat} {f : Nat → Int} (h : ArrAt w g f) {b : Nat} (hb : b ≠ g) (o : Nat) (v : Value) : ArrAt (w.setCell ⟨b, o, none⟩ v) g f := (Below.heap_setCell w ⟨b, o, none⟩ v g (fun e => hb e.symm)).trans h

end Go.Proofs.Ytkpopdoigkcpgaa
