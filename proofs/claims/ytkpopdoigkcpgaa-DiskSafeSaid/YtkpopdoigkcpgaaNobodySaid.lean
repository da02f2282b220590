/-
  What the program's own disk is to answer where no call made one, as a statement over any way in which such a disk lies in memory. zc: the cells of a disk that is only declared.
-/
import Derived.Test.YtkpopdoigkcpgaaDiskAwake
namespace Go.Proofs.Ytkpopdoigkcpgaa
open Go.RowKit
set_option linter.unusedVariables false

structure NobodyApi (zc : Array Value) (Z : World → (Nat → Prop) → Addr → Prop) : Prop where
  keep : ∀ (w w' : World) (F : Nat → Prop) (p : Addr), Z w F p → (∀ k, F k → w'.heap[k]? = w.heap[k]?) → Z w' F p
  lt : ∀ (w : World) (F : Nat → Prop) (p : Addr), Z w F p → ∀ k, F k → k < w.heap.size
  zero : ∀ w : World, Z (w.alloc (.cells zc 61)) (fun k => k = w.heap.size) ⟨w.heap.size, 0, none⟩
  readNil : ∀ (i : Int) (w : World), Calls Try.prog 24 #[.pointer none, .int .i64 i] w fun e w' => ∃ (A : Option Addr) (n c : Nat), e = .returned (.tuple #[.slice A n c, .int .i64 2]) ∧ Below w.heap.size w w'
  writeNil : ∀ (i : Int) (A : Option Addr) (n c : Nat) (w : World), n ≤ maxLen → Calls Try.prog 18 #[.pointer none, .int .i64 i, .slice A n c] w fun e w' => e = .returned (.int .i64 2) ∧ Below w.heap.size w w'
  flushNil : ∀ w : World, Calls Try.prog 20 #[.pointer none] w fun e w' => e = .returned (.int .i64 2) ∧ Below w.heap.size w w'
  armNil : ∀ (i : Int) (w : World), Calls Try.prog 26 #[.pointer none, .int .i64 i] w fun e w' => e = .returned (.tuple #[]) ∧ Below w.heap.size w w'
  crashNil : ∀ (A : Option Addr) (n c : Nat) (w : World), n ≤ maxLen → Calls Try.prog 21 #[.pointer none, .slice A n c] w fun e w' => e = .returned (.tuple #[]) ∧ Below w.heap.size w w'
  sizeNil : ∀ w : World, Calls Try.prog 17 #[.pointer none] w fun e w' => e = .returned (.int .i64 0) ∧ Below w.heap.size w w'
  writesNil : ∀ w : World, Calls Try.prog 15 #[.pointer none] w fun e w' => e = .returned (.int .i64 0) ∧ Below w.heap.size w w'
  read : ∀ (i : Int) (w : World) (F : Nat → Prop) (p : Addr), Z w F p → Calls Try.prog 24 #[.pointer (some p), .int .i64 i] w fun e w' => ∃ (A : Option Addr) (n c : Nat), e = .returned (.tuple #[.slice A n c, .int .i64 2]) ∧ Below w.heap.size w w'
  write : ∀ (i : Int) (A : Option Addr) (n c : Nat) (w : World) (F : Nat → Prop) (p : Addr), Z w F p → n ≤ maxLen → Calls Try.prog 18 #[.pointer (some p), .int .i64 i, .slice A n c] w fun e w' => e = .returned (.int .i64 2) ∧ Below w.heap.size w w'
  flush : ∀ (w : World) (F : Nat → Prop) (p : Addr), Z w F p → Calls Try.prog 20 #[.pointer (some p)] w fun e w' => e = .returned (.int .i64 2) ∧ Below w.heap.size w w'
  arm : ∀ (i : Int) (w : World) (F : Nat → Prop) (p : Addr), Z w F p → Calls Try.prog 26 #[.pointer (some p), .int .i64 i] w fun e w' => e = .returned (.tuple #[]) ∧ Z w' F p ∧ Touch F w w'
  crash : ∀ (A : Option Addr) (n c : Nat) (w : World) (F : Nat → Prop) (p : Addr), Z w F p → n ≤ maxLen → Calls Try.prog 21 #[.pointer (some p), .slice A n c] w fun e w' => e = .returned (.tuple #[]) ∧ Z w' F p ∧ Touch F w w'
  pending : ∀ (w : World) (F : Nat → Prop) (p : Addr), Z w F p → Calls Try.prog 13 #[.pointer (some p)] w fun e w' => ∃ (A : Option Addr) (c : Nat), e = .returned (.slice A 0 c) ∧ Below w.heap.size w w'
  down : ∀ (w : World) (F : Nat → Prop) (p : Addr), Z w F p → Calls Try.prog 16 #[.pointer (some p)] w fun e w' => e = .returned (.bool false) ∧ Below w.heap.size w w'

/-- A disk that no call made, in a law's memory. -/
def LawZ (Z : World → (Nat → Prop) → Addr → Prop) (w0 w : World) (F : Nat → Prop) (p : Addr) : Prop := Z w F p ∧ (∀ k, F k → w0.heap.size ≤ k) ∧ Below w0.heap.size w0 w
theorem LawZ.later {zc : Array Value} {Z : World → (Nat → Prop) → Addr → Prop} (nob : NobodyApi zc Z) {w0 w w' : World} {F : Nat → Prop} {p : Addr} (h : LawZ Z w0 w F p) (hb : Below w.heap.size w w') : LawZ Z w0 w' F p :=
  ⟨nob.keep w w' F p h.1 (fun k hk => hb.block k (nob.lt w F p h.1 k hk)), h.2.1, h.2.2.trans (hb.mono h.2.2.size)⟩
theorem LawZ.next {Z : World → (Nat → Prop) → Addr → Prop} {w0 w w' : World} {F : Nat → Prop} {p : Addr} (h : LawZ Z w0 w F p) (hz : Z w' F p) (ht : Touch F w w') : LawZ Z w0 w' F p :=
  ⟨hz, h.2.1, h.2.2.trans (ht.below h.2.1 h.2.2.size)⟩

end Go.Proofs.Ytkpopdoigkcpgaa
