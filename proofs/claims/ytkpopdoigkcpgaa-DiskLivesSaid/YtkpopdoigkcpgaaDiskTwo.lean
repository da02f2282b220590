/-
  The program's disk and the plain one beside each other in a law's memory: what each call leaves of both. Over any disk that answers as it is to.
-/
import Derived.Test.YtkpopdoigkcpgaaRefDiskJ
import Derived.Test.YtkpopdoigkcpgaaEqInts
import Derived.Test.YtkpopdoigkcpgaaFew
namespace Go.Proofs.Ytkpopdoigkcpgaa
open Go.RowKit
set_option linter.unusedVariables false

/-- Both disks: S the program's, T the plain one. -/
def Two (D : World → (Nat → Prop) → Addr → DS → Prop) (w0 w : World) (F G : Nat → Prop) (p x : Addr) (S T : DS) : Prop :=
  LawSt D w0 w F p S ∧ RefAt w G x T ∧ (∀ k, G k → w0.heap.size ≤ k) ∧ ∀ k, F k → ¬ G k

section
variable {D : World → (Nat → Prop) → Addr → DS → Prop} {w0 w w' : World} {F G : Nat → Prop} {p x : Addr} {S T : DS}

theorem Two.later (api : DiskApi D) (h : Two D w0 w F G p x S T) (hb : Below w.heap.size w w') : Two D w0 w' F G p x S T :=
  ⟨h.1.later api hb, h.2.1.keep (fun k hk => hb.block k (h.2.1.lt k hk)), h.2.2⟩
theorem Two.below (h : Two D w0 w F G p x S T) : Below w0.heap.size w0 w := h.1.below
theorem Two.nextD (api : DiskApi D) (h : Two D w0 w F G p x S T) {F' : Nat → Prop} {S' : DS} (hl : LawSt D w0 w' F' p S') (ht : Step F F' w w') : Two D w0 w' F' G p x S' T := by
  obtain ⟨h1, h2, h3, h4⟩ := h
  refine ⟨hl, h2.keep (fun k hk => ht.1.block k (h2.lt k hk) (fun hf => h4 k hf hk)), h3, fun k hf hg => ?_⟩
  rcases ht.2 k hf with a | a
  · exact h4 k a hg
  · have := h2.lt k hg; omega
theorem Two.nextX (api : DiskApi D) (h : Two D w0 w F G p x S T) {T' : DS} (hw : Wrote w G x T' w') : ∃ G', Two D w0 w' F G' p x S T' ∧ Step G G' w w' := by
  obtain ⟨h1, h2, h3, h4⟩ := h
  obtain ⟨G', hr, ht, hG⟩ := hw
  have hlt := h1.lt api
  refine ⟨G', ⟨⟨api.keep w w' F p S h1.1 (fun k hk => ht.block k (hlt k hk) (h4 k hk)), h1.2.1, h1.2.2.trans (ht.below h3 h1.2.2.size)⟩, hr, fun k hk => ?_, fun k hf hg => ?_⟩, ht, hG⟩
  · rcases hG k hk with a | a
    · exact h3 k a
    · exact Nat.le_trans h1.2.2.size a
  · rcases hG k hg with a | a
    · exact h4 k hf a
    · have := hlt k hf; omega

/-- A sector of one byte beside both. -/
theorem two_sector (api : DiskApi D) (h : Two D w0 w F G p x S T) {c : Int} (hc : 0 ≤ c ∧ c < 256) : Calls Try.prog 19 #[.int .u8 c] w fun e w' => ∃ g, e = .returned (.slice (some ⟨g, 0, none⟩) 256 256) ∧ ¬ F g ∧ ¬ G g ∧ RB w' w'.heap.size (some ⟨g, 0, none⟩) 256 (reps 256 c) ∧ Two D w0 w' F G p x S T ∧ Below w.heap.size w w' := by
  have hlt := h.1.lt api
  have hlt2 := h.2.1.lt
  refine (sectorFn_any c hc w).mono ?_
  rintro e w' ⟨g, rfl, hg, hr, hb⟩
  exact ⟨g, rfl, fun hf => by have := hlt g hf; omega, fun hf => by have := hlt2 g hf; omega, hr, h.later api hb, hb⟩
theorem two_write (api : DiskApi D) (h : Two D w0 w F G p x S T) (i : Int) {g n c B : Nat} {l : List Int} (hr : RB w B (some ⟨g, 0, none⟩) n l) (hc : n ≤ c) (hn : n ≤ 4096) (hw : S.writes ≤ 9223372036854775806) (hg : ¬ F g) :
    Calls Try.prog 18 #[.pointer (some p), .int .i64 i, .slice (some ⟨g, 0, none⟩) n c] w fun e w' => e = .returned (.int .i64 (S.writeE i l)) ∧ ∃ F', Two D w0 w' F' G p x (S.write i l) T ∧ Step F F' w w' := by
  refine (law_write api h.1 i hr hc hn hw hg).mono ?_
  rintro e w' ⟨rfl, F', hl, ht⟩
  exact ⟨rfl, F', h.nextD api hl ht, ht⟩
theorem two_refWrite (api : DiskApi D) (h : Two D w0 w F G p x S T) (i : Int) {g n c B : Nat} {l : List Int} (hr : RB w B (some ⟨g, 0, none⟩) n l) (hB : B ≤ w.heap.size) (hn : n ≤ 4096) (hw : T.writes ≤ 9223372036854775806) (hg : ¬ G g) :
    Calls Try.prog 29 #[.pointer (some x), .int .i64 i, .slice (some ⟨g, 0, none⟩) n c] w fun e w' => e = .returned (.int .i64 (T.writeE i l)) ∧ ∃ G', Two D w0 w' F G' p x S (T.write i l) ∧ Step G G' w w' := by
  refine (refWrite_any h.2.1 i g 0 n c B l hr hB hg (by omega) hw).mono ?_
  rintro e w' ⟨rfl, hwr⟩
  exact ⟨rfl, h.nextX api hwr⟩
theorem two_read (api : DiskApi D) (h : Two D w0 w F G p x S T) (i : Int) : Calls Try.prog 24 #[.pointer (some p), .int .i64 i] w fun e w' => ∃ (A : Option Addr) (n c : Nat), e = .returned (.tuple #[.slice A n c, .int .i64 (S.readE i)]) ∧ n ≤ c ∧ RB w' w'.heap.size A n (S.readL i) ∧ Two D w0 w' F G p x S T ∧ Below w.heap.size w w' := by
  refine (law_read api h.1 i).mono ?_
  rintro e w' ⟨A, n, c, rfl, hc, hr, _, hb⟩
  exact ⟨A, n, c, rfl, hc, hr, h.later api hb, hb⟩
theorem two_refRead (api : DiskApi D) (h : Two D w0 w F G p x S T) (i : Int) : Calls Try.prog 30 #[.pointer (some x), .int .i64 i] w fun e w' => ∃ (A : Option Addr) (n c : Nat), e = .returned (.tuple #[.slice A n c, .int .i64 (T.readE i)]) ∧ n ≤ c ∧ RB w' w'.heap.size A n (T.readL i) ∧ Two D w0 w' F G p x S T ∧ Below w.heap.size w w' := by
  refine (refRead_any h.2.1 i).mono ?_
  rintro e w' ⟨A, n, c, rfl, hc, hr, hb⟩
  exact ⟨A, n, c, rfl, hc, hr, h.later api hb, hb⟩
theorem two_flush (api : DiskApi D) (h : Two D w0 w F G p x S T) : Calls Try.prog 20 #[.pointer (some p)] w fun e w' => e = .returned (.int .i64 S.flushE) ∧ ∃ F', Two D w0 w' F' G p x S.flush T ∧ Step F F' w w' := by
  refine (law_flush api h.1).mono ?_
  rintro e w' ⟨rfl, F', hl, ht⟩
  exact ⟨rfl, F', h.nextD api hl ht, ht⟩
theorem two_refFlush (api : DiskApi D) (h : Two D w0 w F G p x S T) : Calls Try.prog 31 #[.pointer (some x)] w fun e w' => e = .returned (.int .i64 T.flushE) ∧ ∃ G', Two D w0 w' F G' p x S T.flush ∧ Step G G' w w' := by
  refine (refFlush_any h.2.1).mono ?_
  rintro e w' ⟨rfl, hwr⟩
  exact ⟨rfl, h.nextX api hwr⟩
theorem two_arm (api : DiskApi D) (h : Two D w0 w F G p x S T) (i : Int) (hi : -9223372036854775808 ≤ i ∧ i ≤ 9223372036854775807) : Calls Try.prog 26 #[.pointer (some p), .int .i64 i] w fun e w' => e = .returned (.tuple #[]) ∧ ∃ F', Two D w0 w' F' G p x (S.fuse i) T ∧ Step F F' w w' := by
  refine (law_arm api h.1 i hi).mono ?_
  rintro e w' ⟨rfl, F', hl, ht⟩
  exact ⟨rfl, F', h.nextD api hl ht, ht⟩
theorem two_fuse (api : DiskApi D) (h : Two D w0 w F G p x S T) (i : Int) (hi : -9223372036854775808 ≤ i ∧ i ≤ 9223372036854775807) : Calls Try.prog 32 #[.pointer (some x), .int .i64 i] w fun e w' => e = .returned (.tuple #[]) ∧ ∃ G', Two D w0 w' F G' p x S (T.fuse i) ∧ Step G G' w w' := by
  refine (refFuse_any h.2.1 i hi).mono ?_
  rintro e w' ⟨rfl, hr, ht⟩
  exact ⟨rfl, h.nextX api ⟨G, hr, ht, fun k hk => .inl hk⟩⟩
theorem two_crash (api : DiskApi D) (h : Two D w0 w F G p x S T) {A : Option Addr} {n c : Nat} {l : List Int} (hr : RI w w0.heap.size A n l) (hc : n ≤ c) (hn : n ≤ maxLen) : Calls Try.prog 21 #[.pointer (some p), .slice A n c] w fun e w' => e = .returned (.tuple #[]) ∧ ∃ F', Two D w0 w' F' G p x (S.crash l) T ∧ Step F F' w w' := by
  refine (law_crash api h.1 hr hc hn (fun h0 a ha hf => ?_)).mono ?_
  · obtain ⟨b, off, e, hb, _⟩ := hr.2.2 h0
    rw [ha] at e
    cases e
    have := h.1.2.1 _ hf
    have hb' : b < w0.heap.size := hb
    have : w0.heap.size ≤ b := this
    omega
  rintro e w' ⟨rfl, F', hl, ht⟩
  exact ⟨rfl, F', h.nextD api hl ht, ht⟩
theorem two_refCrash (api : DiskApi D) (h : Two D w0 w F G p x S T) {A : Option Addr} {n : Nat} (c : Nat) {l : List Int} (hr : RI w w0.heap.size A n l) (hn : n ≤ maxLen) : Calls Try.prog 33 #[.pointer (some x), .slice A n c] w fun e w' => e = .returned (.tuple #[]) ∧ ∃ G', Two D w0 w' F G' p x S (T.crash l) ∧ Step G G' w w' := by
  refine (refCrash_any h.2.1 c hr h.1.2.2.size hn (fun h0 a ha hf => ?_)).mono ?_
  · obtain ⟨b, off, e, hb, _⟩ := hr.2.2 h0
    rw [ha] at e
    cases e
    have := h.2.2.1 _ hf
    have hb' : b < w0.heap.size := hb
    have : w0.heap.size ≤ b := this
    omega
  rintro e w' ⟨rfl, hwr⟩
  exact ⟨rfl, h.nextX api hwr⟩
end

/-- One call of a list. -/
noncomputable def DS.step (S : DS) (d : DoV) : DS :=
  if 0 ≤ d.op ∧ d.op ≤ 4 then S.write d.i (reps 256 d.b)
  else if d.op = 5 then S
  else if d.op = 6 then S.flush
  else if d.op = 7 then S.fuse d.i
  else if d.op = 8 then S.crash d.keep
  else S.write d.i [d.b]

theorem DS.write_writes (S : DS) (i : Int) (l : List Int) : (S.write i l).writes ≤ S.writes + 1 ∧ (S.write i l).n = S.n := by
  unfold DS.write
  split
  · exact ⟨Nat.le_succ _, rfl⟩
  split
  · exact ⟨Nat.le_succ _, rfl⟩
  split
  · exact ⟨Nat.le_succ _, rfl⟩
  · exact ⟨Nat.le_refl _, rfl⟩
theorem DS.step_writes (S : DS) (d : DoV) : (S.step d).writes ≤ S.writes + 1 ∧ (S.step d).n = S.n := by
  unfold DS.step
  split
  · exact S.write_writes _ _
  split
  · exact ⟨Nat.le_succ _, rfl⟩
  split
  · unfold DS.flush
    split <;> exact ⟨Nat.le_succ _, rfl⟩
  split
  · exact ⟨Nat.le_succ _, rfl⟩
  split
  · exact ⟨Nat.le_succ _, rfl⟩
  · exact S.write_writes _ _

end Go.Proofs.Ytkpopdoigkcpgaa
