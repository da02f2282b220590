/-
  A law's own disk, worked on call by call, over any disk that answers as it is to; and the statement package's own check over it. No condition.
-/
import Derived.Test.YtkpopdoigkcpgaaDiskSaid
namespace Go.Proofs.Ytkpopdoigkcpgaa
open Go.RowKit
set_option linter.unusedVariables false

/-- In w the law's disk S lies at p in blocks of the law's own, F; what was there when the law began (w0) stands. -/
def LawSt (D : World → (Nat → Prop) → Addr → DS → Prop) (w0 w : World) (F : Nat → Prop) (p : Addr) (S : DS) : Prop :=
  D w F p S ∧ (∀ k, F k → w0.heap.size ≤ k) ∧ Below w0.heap.size w0 w

section
variable {D : World → (Nat → Prop) → Addr → DS → Prop} {w0 w w' : World} {F : Nat → Prop} {p : Addr} {S : DS}

theorem LawSt.later (api : DiskApi D) (h : LawSt D w0 w F p S) (hb : Below w.heap.size w w') : LawSt D w0 w' F p S :=
  ⟨api.below h.1 hb, h.2.1, h.2.2.trans (hb.mono h.2.2.size)⟩
theorem LawSt.below (h : LawSt D w0 w F p S) : Below w0.heap.size w0 w := h.2.2
theorem LawSt.lt (api : DiskApi D) (h : LawSt D w0 w F p S) : ∀ k, F k → k < w.heap.size := api.lt w F p S h.1
theorem LawSt.next (h : LawSt D w0 w F p S) {F' : Nat → Prop} {S' : DS} (hd : D w' F' p S') (ht : Touch F w w') (hF : ∀ k, F' k → F k ∨ w.heap.size ≤ k) : LawSt D w0 w' F' p S' := by
  refine ⟨hd, fun k hk => ?_, h.2.2.trans (ht.below h.2.1 h.2.2.size)⟩
  rcases hF k hk with a | a
  · exact h.2.1 k a
  · exact Nat.le_trans h.2.2.size a

/-- What a call that changes the disk does to the rest: nothing; and its blocks are those it had, and new ones. -/
def Step (F F' : Nat → Prop) (w w' : World) : Prop := Touch F w w' ∧ ∀ k, F' k → F k ∨ w.heap.size ≤ k
theorem Step.not {F F' : Nat → Prop} {w w' : World} (h : Step F F' w w') {g : Nat} (hg : g < w.heap.size) (hF : ¬ F g) : ¬ F' g := fun hf => by
  rcases h.2 g hf with a | a
  · exact hF a
  · omega

theorem law_new (api : DiskApi D) {n : Int} (h1 : 3 ≤ n) (h2 : n ≤ 65536) (hb : Below w0.heap.size w0 w) : Calls Try.prog 8 #[.int .i64 n] w fun e w' => ∃ (p : Addr) (F : Nat → Prop), e = .returned (.tuple #[.pointer (some p), .int .i64 0]) ∧ LawSt D w0 w' F p (DS.new n.toNat) := by
  refine (api.new n w h1 h2).mono ?_
  rintro e w' ⟨p, F, rfl, hd, hb', hF⟩
  exact ⟨p, F, rfl, hd, fun k hk => Nat.le_trans hb.size (hF k hk), hb.trans (hb'.mono hb.size)⟩
theorem law_read (api : DiskApi D) (h : LawSt D w0 w F p S) (i : Int) : Calls Try.prog 24 #[.pointer (some p), .int .i64 i] w fun e w' => ∃ (A : Option Addr) (n c : Nat), e = .returned (.tuple #[.slice A n c, .int .i64 (S.readE i)]) ∧ n ≤ c ∧ RB w' w'.heap.size A n (S.readL i) ∧ LawSt D w0 w' F p S ∧ Below w.heap.size w w' := by
  refine (api.read i w F p S h.1).mono ?_
  rintro e w' ⟨A, n, c, rfl, hc, hr, hb⟩
  exact ⟨A, n, c, rfl, hc, hr, h.later api hb, hb⟩
theorem law_write (api : DiskApi D) (h : LawSt D w0 w F p S) (i : Int) {g n c B : Nat} {l : List Int} (hr : RB w B (some ⟨g, 0, none⟩) n l) (hc : n ≤ c) (hn : n ≤ 4096) (hw : S.writes ≤ 9223372036854775806) (hg : ¬ F g) :
    Calls Try.prog 18 #[.pointer (some p), .int .i64 i, .slice (some ⟨g, 0, none⟩) n c] w fun e w' => e = .returned (.int .i64 (S.writeE i l)) ∧ ∃ F' : Nat → Prop, LawSt D w0 w' F' p (S.write i l) ∧ Step F F' w w' := by
  refine (api.write i _ n c B l w F p S h.1 hr hc hn hw (fun a ha => by cases ha; exact hg)).mono ?_
  rintro e w' ⟨rfl, F', hd, ht, hF⟩
  exact ⟨rfl, F', h.next hd ht hF, ht, hF⟩
theorem law_flush (api : DiskApi D) (h : LawSt D w0 w F p S) : Calls Try.prog 20 #[.pointer (some p)] w fun e w' => e = .returned (.int .i64 S.flushE) ∧ ∃ F' : Nat → Prop, LawSt D w0 w' F' p S.flush ∧ Step F F' w w' := by
  refine (api.flush w F p S h.1).mono ?_
  rintro e w' ⟨rfl, F', hd, ht, hF⟩
  exact ⟨rfl, F', h.next hd ht hF, ht, hF⟩
theorem law_arm (api : DiskApi D) (h : LawSt D w0 w F p S) (i : Int) (hi : -9223372036854775808 ≤ i ∧ i ≤ 9223372036854775807) : Calls Try.prog 26 #[.pointer (some p), .int .i64 i] w fun e w' => e = .returned (.tuple #[]) ∧ ∃ F' : Nat → Prop, LawSt D w0 w' F' p (S.fuse i) ∧ Step F F' w w' := by
  refine (api.arm i w F p S h.1 hi).mono ?_
  rintro e w' ⟨rfl, F', hd, ht, hF⟩
  exact ⟨rfl, F', h.next hd ht hF, ht, hF⟩
theorem law_crash (api : DiskApi D) (h : LawSt D w0 w F p S) {A : Option Addr} {n c B : Nat} {l : List Int} (hr : RI w B A n l) (hc : n ≤ c) (hn : n ≤ maxLen) (hA : 0 < n → ∀ a, A = some a → ¬ F a.block) :
    Calls Try.prog 21 #[.pointer (some p), .slice A n c] w fun e w' => e = .returned (.tuple #[]) ∧ ∃ F' : Nat → Prop, LawSt D w0 w' F' p (S.crash l) ∧ Step F F' w w' := by
  refine (api.crash A n c B l w F p S h.1 hr hc hn hA).mono ?_
  rintro e w' ⟨rfl, F', hd, ht, hF⟩
  exact ⟨rfl, F', h.next hd ht hF, ht, hF⟩
theorem law_pending (api : DiskApi D) (h : LawSt D w0 w F p S) : Calls Try.prog 13 #[.pointer (some p)] w fun e w' => ∃ (A : Option Addr) (n c : Nat), e = .returned (.slice A n c) ∧ n ≤ c ∧ RI w' w'.heap.size A n S.pending ∧ (0 < n → ∀ a, A = some a → ¬ F a.block) ∧ LawSt D w0 w' F p S ∧ Below w.heap.size w w' := by
  refine (api.pending w F p S h.1).mono ?_
  rintro e w' ⟨A, n, c, rfl, hc, hr, hA, hb⟩
  exact ⟨A, n, c, rfl, hc, hr, hA, h.later api hb, hb⟩
theorem law_writes (api : DiskApi D) (h : LawSt D w0 w F p S) : Calls Try.prog 15 #[.pointer (some p)] w fun e w' => e = .returned (.int .i64 (S.writes : Int)) ∧ LawSt D w0 w' F p S := by
  refine (api.writes w F p S h.1).mono ?_
  rintro e w' ⟨rfl, hb⟩
  exact ⟨rfl, h.later api hb⟩
theorem law_down (api : DiskApi D) (h : LawSt D w0 w F p S) : Calls Try.prog 16 #[.pointer (some p)] w fun e w' => e = .returned (.bool S.down) ∧ LawSt D w0 w' F p S := by
  refine (api.down w F p S h.1).mono ?_
  rintro e w' ⟨rfl, hb⟩
  exact ⟨rfl, h.later api hb⟩
theorem law_size (api : DiskApi D) (h : LawSt D w0 w F p S) : Calls Try.prog 17 #[.pointer (some p)] w fun e w' => e = .returned (.int .i64 (S.n : Int)) ∧ LawSt D w0 w' F p S := by
  refine (api.sizes w F p S h.1).mono ?_
  rintro e w' ⟨rfl, hb⟩
  exact ⟨rfl, h.later api hb⟩
/-- A sector of one byte beside the law's disk. -/
theorem law_sector (api : DiskApi D) (h : LawSt D w0 w F p S) {c : Int} (hc : 0 ≤ c ∧ c < 256) : Calls Try.prog 19 #[.int .u8 c] w fun e w' => ∃ g, e = .returned (.slice (some ⟨g, 0, none⟩) 256 256) ∧ ¬ F g ∧ RB w' w'.heap.size (some ⟨g, 0, none⟩) 256 (reps 256 c) ∧ LawSt D w0 w' F p S ∧ Below w.heap.size w w' := by
  have hlt := h.lt api
  refine (sectorFn_any c hc w).mono ?_
  rintro e w' ⟨g, rfl, hg, hr, hb⟩
  exact ⟨g, rfl, fun hf => by have := hlt g hf; omega, hr, h.later api hb, hb⟩
end

theorem DS.write_at {S : DS} (hd : S.down = false) {i : Int} (hi : 0 ≤ i ∧ i < S.n) {l : List Int} (hl : l.length = 256) (ha : S.arm = none) : S.writeE i l = 0 ∧ S.write i l = S.put i.toNat l := by
  have hh : S.has i := hi
  unfold DS.writeE DS.write
  simp [hd, hh, hl, ha]

/-- What the check comes to. -/
def chk1 : DS := (DS.new 4).put 1 (reps 256 7)
def chk2 : DS := { chk1 with safe := chk1.last, pend := [] }
def chk3 : DS := chk2.put 1 (reps 256 8)
def chk4 : DS := chk3.put 2 (reps 256 9)
theorem chk_kept : ¬ chk4.kept [1] 1 ∧ chk4.kept [1] 2 := by
  have hp : chk4.pend = [1, 2] := rfl
  constructor
  · rintro ⟨a, h1, h2⟩
    rw [hp] at h1
    have ha : a = 1 := by have := List.mem_singleton.1 h2; omega
    subst ha
    simp at h1
  · exact ⟨1, by rw [hp]; rfl, by simp⟩
open Classical in
theorem chk_end : (chk4.crash [1]).readE 1 = 0 ∧ (chk4.crash [1]).readL 1 = reps 256 7 ∧ (chk4.crash [1]).readE 2 = 0 ∧ (chk4.crash [1]).readL 2 = reps 256 9 ∧ (chk4.crash [1]).n = 4 := by
  have e1 : (chk4.crash [1]).readE 1 = 0 := by simp [DS.readE, DS.crash, DS.has]; decide
  have e2 : (chk4.crash [1]).readE 2 = 0 := by simp [DS.readE, DS.crash, DS.has]; decide
  refine ⟨e1, ?_, e2, ?_, rfl⟩
  · unfold DS.readL
    rw [if_pos e1]
    show (if chk4.kept [1] 1 then chk4.last 1 else chk4.safe 1) = reps 256 7
    rw [if_neg chk_kept.1]
    rfl
  · unfold DS.readL
    rw [if_pos e2]
    show (if chk4.kept [1] 2 then chk4.last 2 else chk4.safe 2) = reps 256 9
    rw [if_pos chk_kept.2]
    rfl

end Go.Proofs.Ytkpopdoigkcpgaa
