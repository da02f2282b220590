/-
  The texts SeqP, SeqS joined. Conditions: those that each part says at its head.
-/
import Derived.Test.YtccibahlcpkiaaaGreatSeqA
import Derived.Test.YtccibahlcpkiaaaGreatRefF

/-
  Numbers given out, over plain lists: what Next makes of what stands at a key, of each of four kinds. Plain facts; no condition.
-/
namespace Go.Proofs.YtccibahlcpkiaaaGreat
open Go.RowKit Go.Maps
set_option linter.unusedVariables false

theorem seqV_pack {x : Int} (h : -9223372036854775808 ≤ x ∧ x ≤ 9223372036854775807) : seqV (some (packN 8 [x])) = x := by
  have e : unpackR (packN 8 [x]) 1 = ([x], 0) := by
    unfold unpackR
    rw [if_pos ⟨by omega, by omega⟩, if_pos (by rw [packN_length]; rfl)]
    show (unpackN 8 (packN 8 [x]) 0 1, (0 : Int)) = ([x], 0)
    rw [show (1 : Nat) = [x].length from rfl, unpack_pack 8 [x] (fun y hy => by obtain rfl := List.mem_singleton.1 hy; exact num8 h)]
  simp [seqV, e]
theorem keyOne_inj {n m : Int} (hn : 0 ≤ n ∧ n < 4294967296) (hm : 0 ≤ m ∧ m < 4294967296) (h : tx (keyL 83 [n]) = tx (keyL 83 [m])) : n = m := by
  have e := tx_inj (tagL_bytes (by omega) _) (tagL_bytes (by omega) _) h
  have h1 := split_key (t := 83) (l := [n]) (fun x hx => by obtain rfl := List.mem_singleton.1 hx; exact hn) (by simp)
  have h2 := split_key (t := 83) (l := [m]) (fun x hx => by obtain rfl := List.mem_singleton.1 hx; exact hm) (by simp)
  rw [show keyL 83 [n] = keyL 83 [m] from e, h2] at h1
  simpa using h1.symm
/-- The numbers that four kinds were given last. -/
structure CntS (S : VS) (f : Nat → Int) : Prop where
  ok : S.Ok
  is : ∀ n : Nat, n < 4 → seqV (S.now (tx (keyL 83 [(n : Int)]))) = f n
theorem CntS.start : CntS ⟨[], []⟩ (fun _ => 0) := ⟨⟨List.Pairwise.nil, List.Pairwise.nil⟩, fun n _ => rfl⟩
theorem CntS.next {S : VS} {f : Nat → Int} (h : CntS S f) {n : Nat} (hn : n < 4) (hf : 0 ≤ f n ∧ f n < 4294967295) : CntS (S.next n) (fun m => if m = n then f n + 1 else f m) := by
  have e : S.next n = S.put (tx (keyL 83 [(n : Int)])) (packN 8 [f n + 1]) := by
    unfold VS.next
    rw [h.is n hn, if_neg (by omega)]
  rw [e]
  refine ⟨h.ok.put _ _, fun m hm => ?_⟩
  rw [h.ok.now_put]
  by_cases q : m = n
  · subst q
    rw [if_pos rfl, if_pos rfl, seqV_pack (by omega)]
  · rw [if_neg q, if_neg (fun q' => q (by have := keyOne_inj (n := (n : Int)) (m := (m : Int)) (by omega) (by omega) q'; omega))]
    exact h.is m hm
theorem next_len (S : VS) (n : Int) : (S.next n).C.length ≤ S.C.length + 1 := by
  unfold VS.next
  split
  · exact Nat.le_succ _
  · exact setT_len _ _ _
theorem nextE_in {k : Int} (h : 0 ≤ k ∧ k < 4294967295) : nextE k = (k + 1, 0) := if_neg (by omega)
end Go.Proofs.YtccibahlcpkiaaaGreat

/-
  Contracts of the document's own numbering over its own view: Num, Last, Next, Set. Condition: which number is an int; tables of fewer than 2^31 pairs.
-/
namespace Go.Proofs.YtccibahlcpkiaaaGreat
open Go.RowKit Go.Maps
set_option maxRecDepth 100000
set_option linter.unusedVariables false

/-- What a call made lies apart from all that was there. -/
theorem own_sv {w w' : World} {u : Value} {l : List Int} (h : OwnB w w' u l) (hl : AllBytes l) (hlen : l.length ≤ 140737488355328) : SV w' (fun k => k < w.heap.size) u l := by
  obtain ⟨A, c, rfl, h1, h2⟩ := h.read hl
  refine ⟨A, l.length, c, rfl, h1, hlen, h2, fun a ha hn => ?_⟩
  rcases h.1.2 with h' | ⟨k, cap, cur, e, hk, _⟩
  · obtain ⟨_, h0⟩ := h'
    omega
  · cases e
    cases ha
    exact Nat.not_lt.2 hk
section
variable {w w' : World} {X : Nat → Prop} {x p q r : Nat} {a b d : TL}
/-- A call of the plain Key over a row of one int. -/
theorem rKeyOne_any (n : Int) (W : World) (g : Nat) (T : TypeId) (h : W.heap[g]? = some (.cells #[.int .i64 n] T (0, 0))) (hn : -9223372036854775808 ≤ n ∧ n ≤ 9223372036854775807) :
    Calls Tryz.prog 34 #[.int .u8 83, .slice (some ⟨g, 0, none⟩) 1 1] W fun e w' => ∃ A c, e = .returned (.slice A 5 c) ∧ SV w' (fun k => k < W.heap.size) (.slice A 5 c) (keyL 83 [n]) ∧ Below W.heap.size W w' := by
  have hr : RI W W.heap.size (some ⟨g, 0, none⟩) 1 [n] := by
    refine ⟨rfl, fun y hy => by obtain rfl := List.mem_singleton.1 hy; exact hn, fun _ => ⟨g, 0, rfl, (Array.getElem?_eq_some_iff.1 h).1, fun j hj => ?_⟩⟩
    rw [Nat.zero_add, cell_of_row W g j _ T (0, 0) h]
    obtain rfl : j = 0 := by simpa using hj
    rfl
  refine (rKey_any 83 _ 1 1 _ [n] W (by omega) hr (Nat.le_refl _) (Nat.le_refl _) (by decide)).mono ?_
  rintro e w' ⟨u, rfl, ho⟩
  have hs := own_sv ho (tagL_bytes (by omega) _) (by rw [keyOne_len]; omega)
  obtain ⟨A, c, rfl, h1, h2⟩ := ho.read (tagL_bytes (by omega) _)
  rw [keyOne_len] at hs ⊢
  exact ⟨A, c, rfl, hs, ho.2⟩
theorem apart_of {W W' : World} {s : Nat} {u : Value} {l : List Int} (h : SV W (fun k => k < s) u l) (hX : ∀ k, X k → k < s) (hb : Below W.heap.size W W') : SV W' X u l :=
  h.keep hb.size (fun k _ hn hx => hn (hX k hx)) (fun k hk _ => hb.block k hk)
end
end Go.Proofs.YtccibahlcpkiaaaGreat
