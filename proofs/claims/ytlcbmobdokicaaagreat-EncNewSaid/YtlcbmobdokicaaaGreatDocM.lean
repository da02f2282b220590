/-
  The texts DocQ, DocM joined. Conditions: those that each part says at its head.
-/
import Derived.Test.YtlcbmobdokicaaaGreatDocP

/-
  The documents of a view that has just one. Plain facts; no condition beyond what each says.
-/
namespace Go.Proofs.YtlcbmobdokicaaaGreat
open Go.RowKit Go.Maps
set_option maxRecDepth 100000
set_option linter.unusedVariables false

theorem only_memT {L : TL} (h : RiseT L) {q : Txt × List Int} (hq : ∀ p, p ∈ L ↔ p = q) : L = [q] := by
  refine RiseT.ext h (List.pairwise_singleton _ _) fun x => ?_
  show _ = if q.1 = x then some q.2 else none
  by_cases e : q.1 = x
  · rw [if_pos e, ← e]
    exact h.look ((hq _).2 rfl)
  · rw [if_neg e]
    exact lookT_none.2 fun p hp => by rw [(hq p).1 hp]; exact e
theorem put_all {d : Dc} (hd : DcOk d) (l : List Dl) (h6 : l.length ≤ 6) (y k : Int) : allDocs ((putLs ((⟨[], []⟩ : VS).next 2) 1 0 l).putD ⟨1, d.k, d.y, d.f, l.length⟩) y k = if d.y = y ∧ d.k = k then [1] else [] := by
  have h0 : (⟨[], []⟩ : VS).Ok := ⟨List.Pairwise.nil, List.Pairwise.nil⟩
  have hs : seqV ((⟨[], []⟩ : VS).now (tx (keyL 83 [2]))) = 0 := rfl
  have hok : ((⟨[], []⟩ : VS).next 2).Ok := by unfold VS.next; rw [hs, if_neg (by omega)]; exact h0.put _ _
  have hokL := putLs_ok 1 l 0 hok
  have hdc : DcOk ⟨1, d.k, d.y, d.f, l.length⟩ := by
    intro v hv
    simp only [List.mem_cons, List.not_mem_nil, or_false] at hv
    rcases hv with rfl | rfl | rfl | rfl | rfl
    · omega
    · exact hd _ (by simp)
    · exact hd _ (by simp)
    · exact hd _ (by simp)
    · omega
  have hscan : ((putLs ((⟨[], []⟩ : VS).next 2) 1 0 l).putD ⟨1, d.k, d.y, d.f, l.length⟩).scan (tx [68]) = [(dKy 1, dcVal ⟨1, d.k, d.y, d.f, l.length⟩)] := by
    refine only_memT (RiseT.filter (hokL.put _ _).nowL _) fun p => ?_
    rw [show p ∈ List.filter (fun q : Txt × List Int => (tx [68]).isPrefixOf q.1) ((putLs ((⟨[], []⟩ : VS).next 2) 1 0 l).put (dKy 1) (dcVal ⟨1, d.k, d.y, d.f, l.length⟩)).nowL ↔ _ from scan_mem (S := (putLs ((⟨[], []⟩ : VS).next 2) 1 0 l).put (dKy 1) (dcVal ⟨1, d.k, d.y, d.f, l.length⟩)) (hokL.put _ _) (y := tx [68]) (p := p)]
    rw [hokL.now_put, tag_prefix (by omega)]
    constructor
    · rintro ⟨h1, h2⟩
      by_cases e : dKy 1 = p.1
      · rw [if_pos e] at h1
        exact Prod.ext e.symm (Option.some.inj h1).symm
      · exfalso
        rw [if_neg e] at h1
        have hz : ∀ (t : Int) (K : List Int), 0 ≤ t ∧ t < 256 → t ≠ 68 → p.1 ≠ tx (keyL t K) := fun t K ht h68 q => by
          rw [q, by_tx (keyL_bytes ht _)] at h2
          unfold keyL tagL at h2
          simp at h2
          exact h68 h2
        rw [putLs_other 1 (fun j => hz 76 _ (by omega) (by omega)) l 0 hok] at h1
        unfold VS.next at h1
        rw [hs, if_neg (by omega), h0.now_put, if_neg (fun q => hz 83 _ (by omega) (by omega) q.symm)] at h1
        cases h1
    · rintro rfl
      refine ⟨if_pos rfl, ?_⟩
      rw [by_tx (keyL_bytes (by omega) _)]
      rfl
  unfold allDocs
  rw [hscan]
  show docsK y k [(by_ (dKy 1), dcVal ⟨1, d.k, d.y, d.f, l.length⟩)] = _
  rw [by_tx (keyL_bytes (by omega) _)]
  have := dcK_made (x := ⟨1, d.k, d.y, d.f, l.length⟩) hdc ((held32_iff 1).2 (by omega))
  unfold docsK
  rw [List.filterMap_cons]
  simp only [this, List.filterMap_nil]
  split
  · rename_i h; split at h
    · cases h
    · rename_i hn; rw [if_neg hn]
  · rename_i h; split at h
    · rename_i hp; rw [if_pos hp]; cases h; rfl
    · cases h
end Go.Proofs.YtlcbmobdokicaaaGreat

/-
  How many keys a view has behind a document's Put, behind a line's Set. Plain facts; no condition beyond what each says.
-/
namespace Go.Proofs.YtlcbmobdokicaaaGreat
open Go.RowKit Go.Maps
set_option maxRecDepth 100000
set_option linter.unusedVariables false

theorem many_next {S : VS} {n : Nat} (h : ManyS S n) (k : Int) : ManyS (S.next k) (n + 1) := by
  unfold VS.next
  split
  · exact h.more (Nat.le_succ _)
  · exact h.put (by rw [tx_length, keyOne_len]; omega) _
theorem many_lines (i : Int) : ∀ (l : List Dl) {S : VS} {n : Nat} (j : Nat), ManyS S n → ManyS (putLs S i j l) (n + l.length)
  | [], S, n, j, h => h
  | x :: r, S, n, j, h => by
    have := many_lines i r (j + 1) (h.put (x := lKy i j) (by rw [tx_length, lKyLen]; omega) (dlVal x))
    rw [List.length_cons, show n + (r.length + 1) = n + 1 + r.length by omega]
    exact this
theorem many_putDoc {S : VS} {n : Nat} (h : ManyS S n) (d : Dc) (l : List Dl) : ManyS (putDoc S d l).2 (n + 8) := by
  unfold putDoc
  split
  · exact h.more (by omega)
  · rename_i hl
    split
    · exact ((many_lines _ l 0 (many_next h 2)).put (by rw [tx_length, dKyLen]; omega) _).more (by omega)
    · exact h.more (by omega)
theorem many_setLine {S : VS} {n : Nat} (h : ManyS S n) (i j : Int) (x : Dl) : ManyS (setLine S i j x).2 (n + 1) := by
  unfold setLine
  split
  · exact h.more (Nat.le_succ _)
  · split
    · exact h.put (by rw [tx_length, lKyLen]; omega) _
    · exact h.more (Nat.le_succ _)
end Go.Proofs.YtlcbmobdokicaaaGreat
