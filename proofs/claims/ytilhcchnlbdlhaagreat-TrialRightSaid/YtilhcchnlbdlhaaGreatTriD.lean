/-
  The texts TriC, TriD joined. Conditions: those that each part says at its head.
-/
import Derived.Test.YtilhcchnlbdlhaaGreatTriB
import Derived.Test.YtilhcchnlbdlhaaGreatEntA
import Derived.Test.YtilhcchnlbdlhaaGreatViewF

/-
  The check of the law of trial by contract, and what its play of entries keeps, over plain lists. No condition.
-/
namespace Go.Proofs.YtilhcchnlbdlhaaGreat
open Go.RowKit Go.Maps
set_option maxRecDepth 100000
set_option linter.unusedVariables false

theorem entPut_came {S : VS} (h : S.Ok) (y kind of_ : Int) (l : List Ln) (hl : l.length ≤ 40) : Came_ S (entPut S y kind of_ l).1 170 := by
  unfold entPut
  split
  · exact (Came_.refl h).more (Nat.zero_le _)
  · refine (entAdd_came h y kind of_ _).more ?_
    have h1 := Nat.le_trans (balL_len (fundsOf l)) (fundsOf_len l)
    rw [List.length_append]
    omega
theorem Came_.open_ {S : VS} (h : S.Ok) (n : Int) : Came_ S (S.open_ n) 1 := by
  unfold VS.open_
  split
  · exact .put h (by unfold yKey; exact key_short _ _) _
  · exact (Came_.refl h).more (Nat.zero_le _)
theorem mem_one {L : TL} {p : Txt × Option (List Int)} {q : Txt × List Int} (h : q ∈ VS.one L p) : q ∈ L ∨ q.1 = p.1 := by
  unfold VS.one at h
  split at h
  · rcases mem_setT h with rfl | h
    · exact Or.inr rfl
    · exact Or.inl h
  · exact Or.inl (List.mem_filter.1 h).1
theorem fold_keys : ∀ (C : List (Txt × Option (List Int))) (L : TL), (∀ p ∈ L, p.1.length ≤ 60) → (∀ p ∈ C, p.1.length ≤ 60) → ∀ q ∈ C.foldl VS.one L, q.1.length ≤ 60
  | [], L, h, g => h
  | p :: C, L, h, g => by
    rw [List.foldl_cons]
    refine fold_keys C _ (fun q hq => ?_) fun q hq => g q (List.mem_cons_of_mem _ hq)
    rcases mem_one hq with hq | e
    · exact h q hq
    · rw [e]; exact g p List.mem_cons_self
/-- A view whose books are right, with few and short keys. -/
structure BookS (S : VS) (n : Nat) : Prop where
  ok : S.Ok
  len : S.W.length + S.C.length ≤ n
  wk : ∀ p ∈ S.W, p.1.length ≤ 60
  ck : ∀ p ∈ S.C, p.1.length ≤ 60
  bk : BooksOk S 2020
theorem BookS.start : BookS ((⟨[], []⟩ : VS).open_ 2020) 1 := by
  have h0 : (⟨[], []⟩ : VS).Ok := ⟨List.Pairwise.nil, List.Pairwise.nil⟩
  have h := Came_.open_ h0 2020
  refine ⟨h.ok, ?_, ?_, h.ck (fun p hp => by cases hp), (BooksOk.start 2020).open_ h0 2020⟩
  · have := h.c
    rw [h.w]
    simpa using this
  · rw [h.w]; intro p hp; cases hp
theorem BookS.commit {S : VS} {n : Nat} (h : BookS S n) : BookS S.commit n := by
  refine ⟨h.ok.commit, ?_, ?_, (fun p hp => by cases hp), h.bk.commit h.ok⟩
  · show S.commit.W.length + 0 ≤ n
    rw [h.ok.commitW]
    exact Nat.le_trans (fold_len _ _) h.len
  · rw [h.ok.commitW]
    exact fold_keys _ _ h.wk h.ck
theorem BookS.came {S S' : VS} {n m : Nat} (h : BookS S n) (g : Came_ S S' m) (hb : BooksOk S' 2020) : BookS S' (n + m) :=
  ⟨g.ok, by have := g.c; have := h.len; rw [g.w]; omega, by rw [g.w]; exact h.wk, g.ck h.ck, hb⟩
/-- Behind a commit an entry that fails and is taken back leaves what was. -/
theorem came_back {S S' : VS} {m : Nat} (g : Came_ S.commit S' m) : S'.abort = S.commit := by
  unfold VS.abort
  rw [g.w]
  rfl
theorem BookS.more {S : VS} {n m : Nat} (h : BookS S n) (hm : n ≤ m) : BookS S m := ⟨h.ok, Nat.le_trans h.len hm, h.wk, h.ck, h.bk⟩
theorem BookS.scanOk {S : VS} {n : Nat} (h : BookS S n) (hn : n ≤ 32767) : ScanOk S :=
  ⟨by have := h.len; omega, fun p hp => Nat.le_trans (h.wk p hp) (by decide), by have := h.len; omega, fun p hp => Nat.le_trans (h.ck p hp) (by decide)⟩
theorem allsB_any {w : World} {X : Nat → Prop} {v m c : Nat} {S : VS} (h : ViewAt w X v m c S) (hS : ScanOk S) (hW : S.W.length ≤ 2147000000) {y : Int} (hy : 0 ≤ y ∧ y ≤ 4294967295) : AllsB w v y (linesK ((S.scan (tx (keyL 66 [y]))).map kvOf)) := balAll_any h hS hW hy
theorem books_len {S : VS} {n : Nat} (h : BookS S n) (hn : n ≤ 32767) (x : Txt) : (linesK ((S.scan x).map kvOf)).length ≤ 2147483647 := by
  refine Nat.le_trans (linesK_len _) ?_
  rw [List.length_map]
  have := scan_len S x; have := h.len
  omega

abbrev twoL : List Ln := [⟨100, 5010, 0, 5⟩, ⟨200, 1010, 0, -5⟩]
abbrev twoB : VS := (entPut ((⟨[], []⟩ : VS).open_ 2020) 2020 0 0 twoL).1
abbrev twoM : List Ln := [⟨100, 2900, 0, -5⟩, ⟨100, 5010, 0, 5⟩, ⟨200, 1010, 0, -5⟩, ⟨200, 1900, 0, 5⟩]
abbrev twoSums : List Sm := [⟨100, 5, 5⟩, ⟨200, 5, 5⟩]
theorem two_open : openE ((⟨[], []⟩ : VS).now (yKey 2020)) 2020 = 0 := by decide +kernel
theorem two_err : (entPut ((⟨[], []⟩ : VS).open_ 2020) 2020 0 0 twoL).2.2 = 0 := by decide +kernel
theorem two_lines : linesK ((twoB.scan (tx (keyL 66 [2020]))).map kvOf) = twoM := by decide +kernel
theorem two_sums : sumsF twoM = twoSums := by decide +kernel
theorem two_from : dueFrom twoM = 5 := by decide +kernel
theorem two_to : dueTo twoM = 5 := by decide +kernel
theorem twoL_ok : ∀ x ∈ twoL, LnOk x := by
  intro x hx
  simp only [List.mem_cons, List.not_mem_nil, or_false] at hx
  rcases hx with rfl | rfl <;> (unfold LnOk; unfold B64; decide)
theorem two_book : BookS twoB 171 :=
  BookS.start.came (entPut_came BookS.start.ok 2020 0 0 twoL (by decide)) (entPut_books BookS.start.ok BookS.start.bk twoL_ok (by decide +kernel) (fun x hx => by
    simp only [List.mem_cons, List.not_mem_nil, or_false] at hx
    rcases hx with rfl | rfl <;> decide) two_err)
end Go.Proofs.YtilhcchnlbdlhaaGreat

/-
  The check of the law of trial by contract. No condition.
-/
namespace Go.Proofs.YtilhcchnlbdlhaaGreat
open Go.RowKit Go.Maps
set_option maxRecDepth 100000
set_option linter.unusedVariables false

theorem lines_lit {w w1 : World} (l : List Ln) (cs : Array Value) (T : TypeId) (hcs : cs = (lnsV l).toArray) (hw : w1 = w.alloc (.cells cs T (0, 0))) (hl : ∀ x ∈ l, LnOk x) : RL w1 w1.heap.size (some ⟨w.heap.size, 0, none⟩) l.length l := by
  subst hw
  subst hcs
  have hb := heap_alloc_new w (.cells (lnsV l).toArray T (0, 0))
  refine ⟨rfl, hl, fun _ => ⟨w.heap.size, 0, rfl, (Array.getElem?_eq_some_iff.1 hb).1, fun j x hx => ?_⟩⟩
  obtain ⟨g0, g1, g2, g3⟩ := lnsV_at hx
  have at_ : ∀ k u, (lnsV l)[k]? = some u → (w.alloc (.cells (lnsV l).toArray T (0, 0))).cell? ⟨w.heap.size, k, none⟩ = some u := fun k u hu => by
    rw [cell_of_row _ _ k _ _ (0, 0) hb, ← hu]
    simp
  rw [Nat.zero_add]
  exact ⟨at_ _ _ g0, at_ _ _ g1, at_ _ _ g2, at_ _ _ g3⟩
theorem twoSums_ok : ∀ s ∈ twoSums, SmOk s := by
  intro x hx
  simp only [List.mem_cons, List.not_mem_nil, or_false] at hx
  rcases hx with rfl | rfl <;> (unfold SmOk; unfold B64; decide)
set_option maxHeartbeats 1600000 in
theorem triAwake_any (w : World) : Calls Tryz.prog 6 #[] w fun e w' => e = .returned (.bool true) ∧ Below w.heap.size w w' := by
  have HN := Lib.hid (vNew_any w (fun _ => False) (fun k h => h.elim))
  go_enter Tryz.func6, Tryz.ntmps6
  go_wp2_with fail
  refine HN.out.mono ?_
  rintro e w1 ⟨v, m, c, rfl, h1, hb1, hv, hm, hc⟩
  obtain ⟨X, hX⟩ : ∃ X : Nat → Prop, X = fun k => False ∨ k = v ∨ k = m ∨ k = c := ⟨_, rfl⟩
  rw [← hX] at h1
  have H1 := yOpen_any h1 2020 (by omega) (by decide)
  rw [two_open] at H1
  have H1 := Lib.hid H1
  have HB := Lib.hid hb1
  have HC := Lib.hid hc
  clear HN h1 hb1 hv hm hc hX
  go_wp2_with fail
  refine H1.out.mono ?_
  rintro e w2 ⟨rfl, h2, t2⟩
  have hb2 := HB.out.trans (t2.below (fun k hk => by rw [hk]; exact HC.out) HB.out.size)
  obtain ⟨w3, hw3⟩ : ∃ w3, w3 = w2.alloc (.cells #[.int .i64 100, .int .i64 5010, .int .i64 0, .int .i64 5, .int .i64 200, .int .i64 1010, .int .i64 0, .int .i64 (-5)] 30 (0, 0)) := ⟨_, rfl⟩
  have hb3 : Below w2.heap.size w2 w3 := by rw [hw3]; exact (Below.refl _ _).alloc (Nat.le_refl _) _
  have hr3 := lines_lit twoL _ _ rfl hw3 twoL_ok
  have H2 := entPut_any (k := 2) (h2.below hb3) BookS.start.ok 0 2020 0 0 0 0 (by unfold I64; omega) (by unfold I64; omega) (by unfold I64; omega) hr3 (Nat.le_refl _) (by decide) (Nat.le_trans (Nat.le_trans (Nat.le_add_left _ _) BookS.start.len) (by decide))
  rw [two_err] at H2
  have H2 := Lib.hid H2
  have HB2 := Lib.hid (hb2.trans (hb3.mono hb2.size))
  clear h2 t2 hb2 hb3 hr3 H1 HB
  go_wp2_with fail
  rw [← hw3]
  clear hw3
  refine H2.out.mono ?_
  rintro e w4 ⟨rfl, h4, t4⟩
  have hb4 := HB2.out.trans (t4.below (fun k hk => by rw [hk]; exact HC.out) HB2.out.size)
  have HALL := Lib.hid (show ∀ W, Below w4.heap.size w4 W → AllsB W v 2020 twoM from fun W hW => by
    have := allsB_any (h4.below hW) (two_book.scanOk (by omega)) (Nat.le_trans (Nat.le_trans (Nat.le_add_right _ _) two_book.len) (by omega)) (y := 2020) (by omega)
    rwa [two_lines] at this)
  have HB4 := Lib.hid hb4
  clear h4 t4 hb4 H2 HB2 HC
  have HD := trDue_any (HALL.out w4 (Below.refl _ _)) (by decide)
  rw [two_from, two_to] at HD
  have HD := Lib.hid HD
  go_wp2_with fail
  refine HD.out.mono ?_
  rintro e w5 ⟨rfl, hb5⟩
  have HS := Lib.hid (trSums_any (HALL.out w5 hb5) (by decide))
  have HB5 := Lib.hid hb5
  clear HD hb5
  go_wp2_with fail
  refine HS.out.mono ?_
  rw [two_sums]
  rintro e w6 ⟨u, rfl, ho6, _, hb6⟩
  obtain ⟨A6, k6, rfl, hk6⟩ := ho6.shape
  obtain ⟨_, _, hr6⟩ := ho6.read twoSums_ok
  obtain ⟨w7, hw7⟩ : ∃ w7, w7 = w6.alloc (.cells #[.int .i64 100, .int .i64 5, .int .i64 5, .int .i64 200, .int .i64 5, .int .i64 5] 71 (0, 0)) := ⟨_, rfl⟩
  have hb7 : Below w6.heap.size w6 w7 := by rw [hw7]; exact (Below.refl _ _).alloc (Nat.le_refl _) _
  have g7 : w7.heap[w6.heap.size]? = some (.cells #[.int .i64 100, .int .i64 5, .int .i64 5, .int .i64 200, .int .i64 5, .int .i64 5] 71 (0, 0)) := by rw [hw7]; exact heap_alloc_new w6 _
  have HEQ := EqualSm_any k6 2 (hr6.below hb7) (Enc.R.of_row (E := SmE) (l := twoSums) g7 rfl twoSums_ok) (by decide) (by decide) hb7.size (Nat.le_refl _)
  rw [decide_eq_true rfl] at HEQ
  have HEQ := Lib.hid HEQ
  have HB7 := Lib.hid (HB5.out.trans ((hb6.trans (hb7.mono hb6.size)).mono HB5.out.size))
  clear ho6 hr6 hk6 hb6 hb7 g7 HS HB5
  simp only [List.length_cons, List.length_nil, Nat.zero_add, Nat.reduceAdd] at HEQ ⊢
  go_wp2_with fail
  rw [← hw7]
  clear hw7
  refine HEQ.out.mono ?_
  rintro e w8 ⟨rfl, hb8⟩
  have hb8' := HB7.out.trans (hb8.mono HB7.out.size)
  have HR := Lib.hid (trRight_any (w := w8) (v := v) (y := 2020) (L := twoM) (fun W hW => HALL.out W (hb8'.trans (hW.mono hb8'.size))) (by decide) (by rw [two_sums]; decide) (by rw [two_from, two_to]))
  have HB8 := Lib.hid hb8'
  clear hb8 hb8' HEQ HB7
  go_wp2_with fail
  refine HR.out.mono ?_
  rintro e w9 ⟨rfl, hb9⟩
  have HE := Lib.hid (HB4.out.trans ((HB8.out.trans (hb9.mono HB8.out.size)).mono HB4.out.size))
  clear hb9 HR HB8
  go_wp2_with fail
  go_ret
  exact ⟨rfl, HE.out⟩
end Go.Proofs.YtilhcchnlbdlhaaGreat
