/-
  The laws' own check of layer 28: it returns true. The walk of TreeEnds: it returns true. No condition beyond those that the statement itself says.
-/
import Derived.Test.YtlpjggilkfpleaaGreatTreC
import Derived.Laws.ResultCell
namespace Go.Proofs.YtlpjggilkfpleaaGreat
open Go.RowKit Go.Maps
set_option maxRecDepth 100000
set_option linter.unusedVariables false

/-- A view in memory behind few changes. -/
structure FewS (S : VS) (j : Nat) : Prop where
  ok : S.Ok
  w : S.W = []
  c : S.C.length ≤ j
  ck : ∀ p ∈ S.C, p.1.length ≤ 60
theorem FewS.start : FewS ⟨[], []⟩ 0 := ⟨⟨List.Pairwise.nil, List.Pairwise.nil⟩, rfl, Nat.le_refl _, fun p (h : p ∈ ([] : List (Txt × Option (List Int)))) => absurd h List.not_mem_nil⟩
theorem FewS.put {S : VS} {j : Nat} (h : FewS S j) {x : Txt} (hx : x.length ≤ 60) (v : List Int) : FewS (S.put x v) (j + 1) :=
  ⟨h.ok.put x v, h.w, Nat.le_trans (setT_len _ _ _) (Nat.succ_le_succ h.c), fun p hp => by
    rcases mem_setT hp with rfl | hp
    · exact hx
    · exact h.ck p hp⟩
theorem FewS.scanOk {S : VS} {j : Nat} (h : FewS S j) (hj : j ≤ 32767) : ScanOk S :=
  ⟨by rw [h.w]; decide, (fun p hp => by rw [h.w] at hp; cases hp), Nat.le_trans h.c hj, fun p hp => Nat.le_trans (h.ck p hp) (by decide)⟩
theorem scansN {w : World} {X : Nat → Prop} {v m c : Nat} {S : VS} (h : ViewAt w X v m c S) (hS : ScanOk S) (y : Int) : ScansN w v y ((S.scan (tx (keyL 78 [y]))).map kvOf) :=
  fun W A k hb hr => vScan_any (h.below hb) hS.wf hS.wk hS.cf hS.ck hr (Nat.le_refl _)
theorem scans_len {S : VS} (hS : ScanOk S) (hW : S.W.length ≤ 2147000000) (x : Txt) : ((S.scan x).map kvOf).length ≤ 2147483647 := by
  rw [List.length_map]
  have := scan_len S x; have := hS.cf
  omega
/-- A row of nodes that a call built, as it is read. -/
theorem NodesR.read {w w' : World} {u : Value} {l : List Nd} (h : NodesR w w' u l) : ∃ A k, u = .slice A l.length k ∧ l.length ≤ k ∧ NdE.R w' w'.heap.size A l.length l := by
  obtain ⟨A, k, rfl, hk⟩ := h.1.shape
  obtain ⟨_, _, hr⟩ := h.1.read h.2.1
  exact ⟨A, k, rfl, hk, hr⟩
/-- The node at one place of such a row. -/
theorem nd_at {w : World} {B : Nat} {A : Option Addr} {n : Nat} {l : List Nd} (h : NdE.R w B A n l) {j : Nat} {x : Nd} (hx : l[j]? = some x) : ∃ b off, A = some ⟨b, off, none⟩ ∧ b < B ∧ NdE.At w b (off + j * 12) x := by
  have hj := (List.getElem?_eq_some_iff.1 hx).1
  obtain ⟨b, off, rfl, hb, hc⟩ := h.2.2 (by rw [← h.len]; omega)
  exact ⟨b, off, rfl, hb, hc j x hx⟩

abbrev twoN : VS := ((⟨[], []⟩ : VS).putN ⟨2020, 1, 0, 0, 0, false, 9, 0, 0, 0, 0, 0⟩).putN ⟨2020, 2, 1, 0, 0, false, 4, 0, 0, 0, 0, 0⟩
theorem two_path : pathN twoN 2020 8 2 = [⟨2020, 2, 1, 0, 0, false, 4, 0, 0, 0, 0, 0⟩, ⟨2020, 1, 0, 0, 0, false, 9, 0, 0, 0, 0, 0⟩] := by decide +kernel
theorem two_kids : kidsN twoN 2020 1 = [⟨2020, 2, 1, 0, 0, false, 4, 0, 0, 0, 0, 0⟩] := by decide +kernel
theorem two_few : FewS twoN 2 := (FewS.start.put (by rw [nKy_len]; omega) _).put (by rw [nKy_len]; omega) _
theorem n1_ok : NdOk ⟨2020, 1, 0, 0, 0, false, 9, 0, 0, 0, 0, 0⟩ := by intro v hv; simp only [List.mem_cons, List.not_mem_nil, or_false] at hv; rcases hv with rfl | rfl | rfl | rfl | rfl | rfl | rfl | rfl | rfl | rfl | rfl <;> omega
theorem n2_ok : NdOk ⟨2020, 2, 1, 0, 0, false, 4, 0, 0, 0, 0, 0⟩ := by intro v hv; simp only [List.mem_cons, List.not_mem_nil, or_false] at hv; rcases hv with rfl | rfl | rfl | rfl | rfl | rfl | rfl | rfl | rfl | rfl | rfl <;> omega
/-- A node of that year. -/
def yearN (x : Nd) : Nd := ⟨2020, x.i, x.p, x.f, x.o, x.ab, x.li, x.pr, x.en, x.ex, x.la, x.ca⟩
theorem yearN_ok {x : Nd} (h : NdOk x) : NdOk (yearN x) := by
  intro v hv
  simp only [yearN, List.mem_cons, List.not_mem_nil, or_false] at hv
  rcases hv with rfl | rfl | rfl | rfl | rfl | rfl | rfl | rfl | rfl | rfl | rfl
  · omega
  · exact h _ (by simp)
  · exact h _ (by simp)
  · exact h _ (by simp)
  · exact h _ (by simp)
  · exact h _ (by simp)
  · exact h _ (by simp)
  · exact h _ (by simp)
  · exact h _ (by simp)
  · exact h _ (by simp)
  · exact h _ (by simp)
end Go.Proofs.YtlpjggilkfpleaaGreat
