/-
  What the program's own disk is to answer, as a statement over any way in which a disk lies in memory: proved in a text of its own, used by the laws' walks.
-/
import Derived.Test.YtkpopdoigkcpgaaDiskP
import Derived.Test.YtkpopdoigkcpgaaDos
import Derived.Test.YtkpopdoigkcpgaaSectorFn
namespace Go.Proofs.Ytkpopdoigkcpgaa
open Go.RowKit
set_option linter.unusedVariables false

/-- D w F p S: in w a disk S lies at p, in the blocks of F. -/
structure DiskApi (D : World → (Nat → Prop) → Addr → DS → Prop) : Prop where
  keep : ∀ (w w' : World) (F : Nat → Prop) (p : Addr) (S : DS), D w F p S → (∀ k, F k → w'.heap[k]? = w.heap[k]?) → D w' F p S
  lt : ∀ (w : World) (F : Nat → Prop) (p : Addr) (S : DS), D w F p S → ∀ k, F k → k < w.heap.size
  ok : ∀ (w : World) (F : Nat → Prop) (p : Addr) (S : DS), D w F p S → S.Ok
  new : ∀ (n : Int) (w : World), 3 ≤ n → n ≤ 65536 → Calls Try.prog 8 #[.int .i64 n] w fun e w' => ∃ (p : Addr) (F : Nat → Prop), e = .returned (.tuple #[.pointer (some p), .int .i64 0]) ∧ D w' F p (DS.new n.toNat) ∧ Below w.heap.size w w' ∧ ∀ k, F k → w.heap.size ≤ k
  newNo : ∀ (n : Int) (w : World), ¬ (3 ≤ n ∧ n ≤ 65536) → Calls Try.prog 8 #[.int .i64 n] w fun e w' => e = .returned (.tuple #[.pointer none, .int .i64 1]) ∧ w = w'
  read : ∀ (i : Int) (w : World) (F : Nat → Prop) (p : Addr) (S : DS), D w F p S → Calls Try.prog 24 #[.pointer (some p), .int .i64 i] w fun e w' => ∃ (A : Option Addr) (n c : Nat), e = .returned (.tuple #[.slice A n c, .int .i64 (S.readE i)]) ∧ n ≤ c ∧ RB w' w'.heap.size A n (S.readL i) ∧ Below w.heap.size w w'
  write : ∀ (i : Int) (A : Option Addr) (n c B : Nat) (l : List Int) (w : World) (F : Nat → Prop) (p : Addr) (S : DS), D w F p S → RB w B A n l → n ≤ c → n ≤ 4096 → S.writes ≤ 9223372036854775806 → (∀ a, A = some a → ¬ F a.block) →
    Calls Try.prog 18 #[.pointer (some p), .int .i64 i, .slice A n c] w fun e w' => e = .returned (.int .i64 (S.writeE i l)) ∧ ∃ F' : Nat → Prop, D w' F' p (S.write i l) ∧ Touch F w w' ∧ ∀ k, F' k → F k ∨ w.heap.size ≤ k
  flush : ∀ (w : World) (F : Nat → Prop) (p : Addr) (S : DS), D w F p S → Calls Try.prog 20 #[.pointer (some p)] w fun e w' => e = .returned (.int .i64 S.flushE) ∧ ∃ F' : Nat → Prop, D w' F' p S.flush ∧ Touch F w w' ∧ ∀ k, F' k → F k ∨ w.heap.size ≤ k
  arm : ∀ (i : Int) (w : World) (F : Nat → Prop) (p : Addr) (S : DS), D w F p S → (-9223372036854775808 ≤ i ∧ i ≤ 9223372036854775807) → Calls Try.prog 26 #[.pointer (some p), .int .i64 i] w fun e w' => e = .returned (.tuple #[]) ∧ ∃ F' : Nat → Prop, D w' F' p (S.fuse i) ∧ Touch F w w' ∧ ∀ k, F' k → F k ∨ w.heap.size ≤ k
  crash : ∀ (A : Option Addr) (n c B : Nat) (l : List Int) (w : World) (F : Nat → Prop) (p : Addr) (S : DS), D w F p S → RI w B A n l → n ≤ c → n ≤ maxLen → (0 < n → ∀ a, A = some a → ¬ F a.block) →
    Calls Try.prog 21 #[.pointer (some p), .slice A n c] w fun e w' => e = .returned (.tuple #[]) ∧ ∃ F' : Nat → Prop, D w' F' p (S.crash l) ∧ Touch F w w' ∧ ∀ k, F' k → F k ∨ w.heap.size ≤ k
  pending : ∀ (w : World) (F : Nat → Prop) (p : Addr) (S : DS), D w F p S → Calls Try.prog 13 #[.pointer (some p)] w fun e w' => ∃ (A : Option Addr) (n c : Nat), e = .returned (.slice A n c) ∧ n ≤ c ∧ RI w' w'.heap.size A n S.pending ∧ (0 < n → ∀ a, A = some a → ¬ F a.block) ∧ Below w.heap.size w w'
  writes : ∀ (w : World) (F : Nat → Prop) (p : Addr) (S : DS), D w F p S → Calls Try.prog 15 #[.pointer (some p)] w fun e w' => e = .returned (.int .i64 (S.writes : Int)) ∧ Below w.heap.size w w'
  down : ∀ (w : World) (F : Nat → Prop) (p : Addr) (S : DS), D w F p S → Calls Try.prog 16 #[.pointer (some p)] w fun e w' => e = .returned (.bool S.down) ∧ Below w.heap.size w w'
  sizes : ∀ (w : World) (F : Nat → Prop) (p : Addr) (S : DS), D w F p S → Calls Try.prog 17 #[.pointer (some p)] w fun e w' => e = .returned (.int .i64 (S.n : Int)) ∧ Below w.heap.size w w'

theorem DiskApi.below {D : World → (Nat → Prop) → Addr → DS → Prop} (api : DiskApi D) {w w' : World} {F : Nat → Prop} {p : Addr} {S : DS} (h : D w F p S) (hb : Below w.heap.size w w') : D w' F p S :=
  api.keep w w' F p S h fun k hk => hb.block k (api.lt w F p S h k hk)

/-- A disk in a law's memory: in blocks of the law's own. -/
def Own (D : World → (Nat → Prop) → Addr → DS → Prop) (B : Nat) (w : World) (p : Addr) (S : DS) : Prop := ∃ F : Nat → Prop, D w F p S ∧ ∀ k, F k → B ≤ k

theorem bits_and15 (x : Int) : bits .and .i64 x 15 = x % 16 := by
  simp only [bits]
  rw [IntKind.wrap_i64, BitVec.toNat_and, BitVec.toNat_ofInt, BitVec.toNat_ofInt]
  rw [show (2 : Nat) ^ IntKind.i64.bits = 18446744073709551616 from rfl]
  rw [show ((15 : Int) % ((18446744073709551616 : Nat) : Int)).toNat = 2 ^ 4 - 1 from rfl, Nat.and_two_pow_sub_one_eq_mod]
  omega

end Go.Proofs.Ytkpopdoigkcpgaa
