/-
  Contract of chart.numbers over a view in memory: the numbers behind a tag in its keys, in a row of the call's own; nothing that was there is written. Condition: what a scan of the tag comes to.
-/
import Derived.Test.YtlpjggilkfpleaaGreatViewC
import Derived.Test.YtlpjggilkfpleaaGreatIntApp
import Derived.Test.YtlpjggilkfpleaaGreatKeyB
import Derived.Test.YtlpjggilkfpleaaGreatNumsP
namespace Go.Proofs.YtlpjggilkfpleaaGreat
open Go.RowKit Go.Maps
set_option maxRecDepth 100000
set_option linter.unusedVariables false

/-- What a scan asks of a view. -/
structure ScanOk (S : VS) : Prop where
  wf : S.W.length ≤ 2147483647
  wk : ∀ p ∈ S.W, p.1.length ≤ 140737488355328
  cf : S.C.length ≤ 32767
  ck : ∀ p ∈ S.C, p.1.length ≤ 140737488355328
theorem one_len (L : TL) (p : Txt × Option (List Int)) : (VS.one L p).length ≤ L.length + 1 := by
  unfold VS.one
  split
  · exact setT_len _ _ _
  · exact Nat.le_succ_of_le (delT_len _ _)
theorem fold_len : ∀ (C : List (Txt × Option (List Int))) (L : TL), (C.foldl VS.one L).length ≤ L.length + C.length
  | [], L => Nat.le_refl _
  | p :: C, L => by
    have h1 := fold_len C (VS.one L p)
    have h2 := one_len L p
    rw [List.foldl_cons, List.length_cons]
    omega
theorem scan_len (S : VS) (x : Txt) : (S.scan x).length ≤ S.W.length + S.C.length := Nat.le_trans (List.length_filter_le _ _) (fold_len _ _)
theorem keyTag (t : Int) : keyL t [] = [t] := rfl
theorem numsK_len (ps : List KV) : (numsK ps).length ≤ ps.length := List.length_filterMap_le _ _
theorem numsK_step {ps : List KV} {k : Nat} {x : KV} (h : ps[k]? = some x) : numsK (ps.take (k + 1)) = numsK (ps.take k) ++ (oneOf x.1).toList := by
  obtain ⟨hk, rfl⟩ := List.getElem?_eq_some_iff.1 h
  unfold numsK
  rw [List.take_succ_eq_append_getElem hk, List.filterMap_append]
  congr 1
theorem numsK_ints {ps : List KV} (h : ∀ x ∈ ps, AllBytes x.1) : ∀ x ∈ numsK ps, -9223372036854775808 ≤ x ∧ x ≤ 9223372036854775807 := by
  intro x hx
  obtain ⟨q, hq, e⟩ := List.mem_filterMap.1 hx
  unfold oneOf at e
  split at e
  · cases e
    exact numOf_bound _ ((h q hq).drop 1 |>.take 4)
  · cases e
theorem kv_bytes {L : TL} : ∀ x ∈ L.map kvOf, AllBytes x.1 := fun x hx => by
  obtain ⟨p, _, rfl⟩ := List.mem_map.1 hx
  exact by_bytes p.1
/-- What a scan of one tag answers, from a world on. -/
def ScansAt (w : World) (v : Nat) (t : Int) (ps : List KV) : Prop :=
  ∀ W A k, Below w.heap.size w W → RB W W.heap.size A 1 [t] → Calls Tryz.prog 69 #[.pointer (some ⟨v, 0, none⟩), .slice A 1 k] W fun e w' => ∃ A' n' k', e = .returned (.slice A' n' k') ∧ n' ≤ k' ∧ RPairs w' w'.heap.size A' n' ps ∧ Below W.heap.size W w'
section
variable {w w' : World} {v : Nat}
end
end Go.Proofs.YtlpjggilkfpleaaGreat
