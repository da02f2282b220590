/-
  Contract of the view's Scan over memory: all pairs that there will be whose keys begin so, rising. Conditions: fewer than 2^31 pairs and 32,768 changes, texts and values of at most 2^47 bytes.
-/
import Derived.Test.YtlpjggilkfpleaaGreatViewM
namespace Go.Proofs.YtlpjggilkfpleaaGreat
open Go.RowKit Go.Maps Go.Sort Go.Shelf
set_option maxRecDepth 100000
set_option linter.unusedVariables false

/-- What has come of the changes: those that put, their keys beginning with p, that are no longer to come. -/
def CameC (C : List (Txt × Option (List Int))) (p : Txt) (left : Txt → Bool) (ms : TL) : Prop := (ms.map (·.1)).Nodup ∧ ∀ q, q ∈ ms ↔ lookT C q.1 = some (some q.2) ∧ p.isPrefixOf q.1 = true ∧ left q.1 = false
theorem CameC.start (C : List (Txt × Option (List Int))) (p : Txt) : CameC C p (fun x => (lookT C x).isSome) [] := ⟨List.nodup_nil, fun q => ⟨fun h => (by cases h), fun h => by
  obtain ⟨h1, _, h3⟩ := h
  simp [h1] at h3⟩⟩
theorem CameC.step {C : List (Txt × Option (List Int))} {p x : Txt} {left : Txt → Bool} {ms : TL} {l : List Int} (h : CameC C p left ms) (hx : lookT C x = some (some l)) (hl : left x = true) (hp : p.isPrefixOf x = true) : CameC C p (fun z => left z && !decide (z = x)) (ms ++ [(x, l)]) := by
  obtain ⟨h1, h2⟩ := h
  have hno : ∀ q ∈ ms, q.1 ≠ x := fun q hq e => by
    have := ((h2 _).1 hq).2.2
    rw [e, hl] at this
    cases this
  refine ⟨?_, fun q => ?_⟩
  · rw [List.map_append, List.nodup_append]
    refine ⟨h1, by simp, fun a ha b hb e => ?_⟩
    obtain ⟨q, hq, rfl⟩ := List.mem_map.1 ha
    simp at hb
    exact hno q hq (e.trans hb)
  · rw [List.mem_append, List.mem_singleton, h2 q]
    constructor
    · rintro (⟨a, b, c⟩ | rfl)
      · exact ⟨a, b, by show (left q.1 && _) = false; rw [c]; rfl⟩
      · exact ⟨hx, hp, by simp⟩
    · rintro ⟨a, b, c⟩
      by_cases e : q.1 = x
      · right
        rw [e, hx] at a
        exact Prod.ext e (Option.some.inj (Option.some.inj a)).symm
      · left
        refine ⟨a, b, ?_⟩
        have : decide (q.1 = x) = false := by simpa using e
        have c' : (left q.1 && !decide (q.1 = x)) = false := c
        rw [this] at c'
        simpa using c'
theorem CameC.skip {C : List (Txt × Option (List Int))} {p x : Txt} {left : Txt → Bool} {ms : TL} (h : CameC C p left ms) (hp : ∀ l, lookT C x = some (some l) → p.isPrefixOf x = false) : CameC C p (fun z => left z && !decide (z = x)) ms := by
  obtain ⟨h1, h2⟩ := h
  refine ⟨h1, fun q => ?_⟩
  rw [h2 q]
  constructor
  · rintro ⟨a, b, c⟩
    exact ⟨a, b, by show (left q.1 && _) = false; rw [c]; rfl⟩
  · rintro ⟨a, b, c⟩
    refine ⟨a, b, ?_⟩
    have : decide (q.1 = x) = false := by
      have : q.1 ≠ x := fun e => by
        rw [e] at a b
        rw [hp _ a] at b
        cases b
      simpa using this
    have c' : (left q.1 && !decide (q.1 = x)) = false := c
    rw [this] at c'
    simpa using c'

theorem pairs_same {L M : TL} (hL : RiseT L) (hM : RiseT M) (h : ∀ q, q ∈ L ↔ q ∈ M) : L = M := by
  refine RiseT.ext hL hM fun x => ?_
  cases hl : lookT L x with
  | none =>
    cases hm : lookT M x with
    | none => rfl
    | some d => exact absurd rfl (lookT_none.1 hl _ ((h _).2 (lookT_mem hm)))
  | some d => rw [hM.look ((h _).1 (lookT_mem hl))]

/-- What Scan comes to. -/
theorem scan_is {S : VS} (h : S.Ok) {p : Txt} {ps ms out : TL} (hps : ps.Perm (S.W.filter fun q => p.isPrefixOf q.1)) (hms : CameC S.C p (fun _ => false) ms) (hout : out.Perm ((ps.filter fun q => !(lookT S.C q.1).isSome) ++ ms)) (hr : RiseT out) : out = S.scan p := by
  refine pairs_same hr (h.nowL.filter _) fun q => ?_
  unfold VS.scan
  rw [hout.mem_iff, List.mem_append, List.mem_filter, hps.mem_iff, List.mem_filter, List.mem_filter, hms.2 q]
  have hnow : q ∈ S.nowL ↔ S.now q.1 = some q.2 := by
    rw [← h.look]
    exact ⟨fun hq => h.nowL.look hq, fun hq => lookT_mem hq⟩
  rw [hnow]
  unfold VS.now
  have hW : q ∈ S.W ↔ lookT S.W q.1 = some q.2 := ⟨fun hq => h.w.look hq, fun hq => lookT_mem hq⟩
  rw [hW]
  cases hc : lookT S.C q.1 with
  | none => simp
  | some d =>
    cases d with
    | none => simp
    | some l => simp

theorem scan_keys {S : VS} (h : S.Ok) {p : Txt} {ps ms : TL} (hps : ps.Perm (S.W.filter fun q => p.isPrefixOf q.1)) (hms : CameC S.C p (fun _ => false) ms) : (((ps.filter fun q => !(lookT S.C q.1).isSome) ++ ms).map (·.1)).Nodup := by
  have hWn : (S.W.map (·.1)).Nodup := by
    rw [List.nodup_iff_pairwise_ne, List.pairwise_map]
    exact h.w.imp fun {a b} h e => by rw [e] at h; exact tlt_irrefl _ h
  have h1 : ((ps.filter fun q => !(lookT S.C q.1).isSome).map (·.1)).Nodup := by
    have h2 : (ps.map (·.1)).Nodup := (hps.map _).nodup_iff.2 ((List.filter_sublist.map _).nodup hWn)
    exact (List.filter_sublist.map _).nodup h2
  rw [List.map_append, List.nodup_append]
  refine ⟨h1, hms.1, fun a ha b hb e => ?_⟩
  obtain ⟨q, hq, rfl⟩ := List.mem_map.1 ha
  obtain ⟨r, hr, rfl⟩ := List.mem_map.1 hb
  have h3 := (List.mem_filter.1 hq).2
  have h4 := ((hms.2 r).1 hr).1
  have e' : q.1 = r.1 := e
  rw [e', h4] at h3
  cases h3

section
variable {w w' : World} {X Y : Nat → Prop} {v m c : Nat} {S : VS}
theorem GRow.base_le {β : Type} {R : World → (Nat → Prop) → List Value → β → Prop} {e : TypeId} {size base base' : Nat} {u : Value} {l : List β} (h : GRow R e size w Y base u l) (hb : base' ≤ base) : GRow R e size w Y base' u l := by
  obtain ⟨⟨vs, h1, h2⟩, h3⟩ := h
  refine ⟨⟨vs, ?_, h2⟩, h3⟩
  rcases h1.2 with h' | ⟨g, cap, cur, hv, hg, hh⟩
  · exact ⟨h1.1, .inl h'⟩
  · exact ⟨h1.1, .inr ⟨g, cap, cur, hv, Nat.le_trans hb hg, hh⟩⟩
/-- DeleteFunc of no pairs. -/
theorem delF_nil (w : World) (k : Nat) (fv : Value) : Calls Tryz.prog 101 #[.slice none 0 k, fv] w fun e w' => e = .returned (.slice none 0 k) ∧ w = w' := by
  have HI : Calls Tryz.prog 87 #[.slice none 0 k, fv] w fun e w' => e = .returned (.int .i64 (-1)) ∧ w = w' := by
    go_enter Tryz.func87, Tryz.ntmps87
    go_wp2_with fail
    refine wp_loop_rounds 1 ?_
    rw [rounds_succ]
    go_wp2
    go_ret
    exact ⟨rfl, rfl⟩
  have HI := Lib.hid HI
  go_enter Tryz.func101, Tryz.ntmps101
  go_wp2_with fail
  refine HI.out.mono ?_
  rintro e w' ⟨rfl, rfl⟩
  go_wp2
  go_ret
  exact ⟨rfl, rfl⟩
theorem sortP_nil (w : World) (k : Nat) (fv : Value) : Calls Tryz.prog 104 #[.slice none 0 k, fv] w fun e w' => e = .returned (.tuple #[]) ∧ w' = w := by
  have h := AnyF.slices_SortFunc_none Tryz.sortP none k fv w
  change Calls Tryz.prog 104 _ _ _ at h
  exact h

/-- Where Scan's pairs stand behind DeleteFunc: those of the store that stay, in a row of the call's own. -/
theorem delF_view (h : ViewAt w X v m c S) {w2 : World} {bx r base : Nat} (hb : Below w.heap.size w w2) (hbx : w2.cell? ⟨bx, 0, none⟩ = some (.pointer (some ⟨v, 0, none⟩))) (hbl : bx < base) (hrb : r < base) (hwr : w.heap.size ≤ r) {ps : TL} {A : Option Addr} {k : Nat} (hrow : RangeRows w2 r base (.slice A ps.length k) (ps.map kvOf)) (hn : ps.length ≤ 4294967295) :
    Calls Tryz.prog 101 #[.slice A ps.length k, .func (.func 102) #[] #[.pointer (some ⟨bx, 0, none⟩)]] w2 fun e w' => ∃ n' k', e = .returned (.slice A n' k') ∧ n' = (ps.filter fun q => !(lookT S.C q.1).isSome).length ∧ RangeRows w' r base (.slice A n' k') ((ps.filter fun q => !(lookT S.C q.1).isSome).map kvOf) ∧ Below base w2 w' := by
  rcases A with _ | ad
  · have h0 : ps = [] := by
      obtain ⟨Y, ⟨⟨vs, h1, _⟩, _⟩, _⟩ := hrow
      rcases h1.2 with ⟨e, h0⟩ | ⟨g, cap, cur, e, _⟩
      · rw [List.length_map] at h0
        exact List.eq_nil_of_length_eq_zero h0
      · cases e
    subst h0
    refine (delF_nil w2 k _).mono ?_
    rintro e w' ⟨rfl, rfl⟩
    exact ⟨0, k, rfl, rfl, hrow, Below.refl _ _⟩
  · obtain ⟨Y, h1, h2, h3, h4, h5⟩ := hrow
    obtain ⟨g, hg⟩ : ∃ g, ad = ⟨g, 0, none⟩ := by
      obtain ⟨⟨vs, h1, _⟩, _⟩ := h1
      rcases h1.2 with ⟨e, h0⟩ | ⟨g, cap, cur, e, _⟩
      · cases e
      · injection e with e1 _ _; exact ⟨g, Option.some.inj e1⟩
    subst hg
    have hgb : base ≤ g := (h1.at_ g rfl).1
    have hYg : Y g := h1.own g rfl
    have hP : ChdP w2 g bx Y (fun x => (lookT S.C (tx x.1)).isSome) := by
      intro W u1 u2 x ht s1 s2
      have h2' : ViewAt w2 (fun k => X k ∨ (w.heap.size ≤ k ∧ k < w2.heap.size)) v m c S := h.keep hb.size (fun k hk hx hh => by rcases hh with a | a; exact hx a; omega) (fun k hk => .inl hk) (fun k hk => by rcases hk with a | a; exact Nat.lt_of_lt_of_le (h.lt k a) hb.size; exact a.2) (fun k hk _ => hb.block k hk)
      have hW : ViewAt W (fun k => X k ∨ (w.heap.size ≤ k ∧ k < w2.heap.size)) v m c S := h2'.keep ht.size (fun _ _ h => h) (fun _ h => h) (fun k hk => Nat.lt_of_lt_of_le (h2'.lt k hk) ht.size) (fun k hk hh => ht.block k hk fun e => by
        have hgl := h4 g hYg
        rcases hh with a | a | a | a
        · have := h.lt v h.xv; omega
        · have := h.lt m h.xm; omega
        · have := h.lt c h.xc; omega
        · exact a (.inr ⟨by omega, hk⟩))
      have hbx' : W.cell? ⟨bx, 0, none⟩ = some (.pointer (some ⟨v, 0, none⟩)) := by
        rw [World.cell?_of_block (a := ⟨bx, 0, none⟩) (ht.block bx (World.block_lt_of_cell? _ _ hbx) (by omega))]
        exact hbx
      obtain ⟨A1, n1, k1, rfl, _, z1, z2, _⟩ := s1
      obtain ⟨A2, n2, k2, rfl⟩ := s2.slice
      exact chd_any hW hbx' (World.block_lt_of_cell? _ _ hbx') z2 (Nat.le_refl _) (by unfold maxLen; omega)
    have hlen : ps.length = (ps.map kvOf).length := by rw [List.length_map]
    have hD := delF_any h1 h4 hP (by omega)
    have hfil : (ps.map kvOf).filter (fun x => !(lookT S.C (tx x.1)).isSome) = (ps.filter fun q => !(lookT S.C q.1).isSome).map kvOf := by
      rw [List.filter_map]
      congr 1
      refine List.filter_congr fun q _ => ?_
      show (!(lookT S.C (tx (by_ q.1))).isSome) = _
      rw [tx_by]
    refine hD.mono ?_
    rintro e w' ⟨rfl, hG, ht⟩
    rw [hfil, List.length_map] at hG ⊢
    exact ⟨_, _, rfl, rfl, ⟨Y, hG, h2, h3, fun k hk => Nat.lt_of_lt_of_le (h4 k hk) ht.size, h5⟩, ht.below (fun k e => by rw [e]; exact hgb) (by have := h4 g hYg; omega)⟩
theorem RangeRows.rebase {r base r2 : Nat} {u : Value} {P : List KV} (h : RangeRows w r base u P) (hb : Below w.heap.size w w') (h2 : w.heap.size ≤ r2) (h3 : r2 < w'.heap.size) (hrb : r ≤ base) : RangeRows w' r2 r u P := by
  obtain ⟨Y, g1, g2, g3, g4, g5⟩ := h
  have hown : ∀ k, u.ownBlock = some k → k < w.heap.size := fun k hk => (g1.at_ k hk).2
  refine ⟨fun k => Y k ∨ k = r2, ((g1.base_le hrb).keep @pairR_kept hb.size (fun k hk hy hh => ?_) (fun k hk _ => hb.block k hk) (fun k hk => ⟨hb.block k (hown k hk), .inl (g1.own k hk)⟩)), .inr rfl, fun k hk => ?_, fun k hk => ?_, fun e => ?_⟩
  · rcases hh with a | a
    · exact hy a
    · omega
  · rcases hk with a | a
    · rcases g3 k a with b | b
      · left; omega
      · left; omega
    · exact .inr a
  · rcases hk with a | a
    · exact Nat.lt_of_lt_of_le (g4 k a) hb.size
    · omega
  · have := hown r2 e
    omega
theorem scan_sorts (hok : S.Ok) {base r2 : Nat} {A : Option Addr} {n k : Nat} {p : Txt} {ps ms : TL} (hrow : RangeRows w r2 base (.slice A n k) (((ps.filter fun q => !(lookT S.C q.1).isSome) ++ ms).map kvOf)) (hps : ps.Perm (S.W.filter fun q => p.isPrefixOf q.1)) (hms : CameC S.C p (fun _ => false) ms) (hn : ((ps.filter fun q => !(lookT S.C q.1).isSome) ++ ms).length ≤ 4294967296) :
    Calls Tryz.prog 104 #[.slice A n k, .func (.func 105) #[] #[]] w fun e w' => e = .returned (.tuple #[]) ∧ n ≤ k ∧ RPairs w' w'.heap.size A n ((S.scan p).map kvOf) ∧ RowKit.Below base w w' := by
  obtain ⟨L, hL⟩ : ∃ L : TL, L = (ps.filter fun q => !(lookT S.C q.1).isSome) ++ ms := ⟨_, rfl⟩
  have hkeys := scan_keys hok hps hms
  have his := fun out (h1 : out.Perm L) (h2 : RiseT out) => scan_is hok hps hms (by rw [← hL]; exact h1) h2
  rw [← hL] at hrow hn hkeys
  obtain ⟨Y, h1, h2, h3, h4, h5⟩ := hrow
  rcases A with _ | ad
  · have h0 : L = [] ∧ n = 0 := by
      obtain ⟨⟨vs, g1, _⟩, _⟩ := h1
      rcases g1.2 with ⟨e, h0⟩ | ⟨g, cap, cur, e, _⟩
      · rw [List.length_map] at h0
        injection e with _ e2 _
        exact ⟨List.eq_nil_of_length_eq_zero h0, e2⟩
      · cases e
    obtain ⟨rfl, rfl⟩ := h0
    refine (sortP_nil w k _).mono ?_
    rintro e w' ⟨rfl, rfl⟩
    rw [← his [] (List.Perm.refl _) List.Pairwise.nil]
    exact ⟨rfl, Nat.zero_le _, RPairs.nil_, RowKit.Below.refl _ _⟩
  · obtain ⟨g, hg⟩ : ∃ g, ad = ⟨g, 0, none⟩ := by
      obtain ⟨⟨vs, g1, _⟩, _⟩ := h1
      rcases g1.2 with ⟨e, h0⟩ | ⟨g, cap, cur, e, _⟩
      · cases e
      · injection e with e1 _ _; exact ⟨g, Option.some.inj e1⟩
    subst hg
    obtain ⟨hl, hbg, hY, vs, hr, hvs⟩ := h1.open_
    rw [List.length_map] at hl
    have hS := sortP_any (ps := L) hr hl.symm hY (fun a x hx => hvs a (kvOf x) (by rw [List.getElem?_map, hx]; rfl)) (by omega) hkeys
    refine hS.mono ?_
    rintro e w' ⟨rfl, ps', hp', hri, ⟨vs', hr', hv'⟩, ht⟩
    have hG : GRow PairR 88 2 w' Y base (.slice (some ⟨g, 0, none⟩) (ps'.map kvOf).length k) (ps'.map kvOf) := GRow.shut hr' (by rw [List.length_map, hp'.length_eq]; omega) hbg hY (fun a x hx => by
      rw [List.getElem?_map] at hx
      obtain ⟨q, hq, rfl⟩ := Option.map_eq_some_iff.1 hx
      exact hv' a q hq)
    have hnl : (ps'.map kvOf).length = n := by rw [List.length_map, hp'.length_eq]; exact hl.symm
    rw [hnl] at hG
    obtain ⟨_, g2, g3⟩ := hG.pairs
    rw [his ps' hp' hri] at g3
    exact ⟨rfl, g2, g3, ht.below (fun k e => by rw [e]; exact hbg) (by have := h4 g hY; omega)⟩
set_option maxHeartbeats 12800000 in
theorem vScan_any (h : ViewAt w X v m c S) (hWf : S.W.length ≤ 2147483647) (hWk : ∀ p ∈ S.W, p.1.length ≤ 140737488355328) (hCf : S.C.length ≤ 32767) (hCk : ∀ p ∈ S.C, p.1.length ≤ 140737488355328) {A : Option Addr} {n k B : Nat} {l : List Int} (hr : RB w B A n l) (hB : B ≤ w.heap.size) :
    Calls Tryz.prog 69 #[.pointer (some ⟨v, 0, none⟩), .slice A n k] w fun e w' => ∃ A' n' k', e = .returned (.slice A' n' k') ∧ n' ≤ k' ∧ RPairs w' w'.heap.size A' n' ((S.scan (tx l)).map kvOf) ∧ Below w.heap.size w w' := by
  obtain ⟨w1, hw1⟩ : ∃ w1, w1 = w.alloc (.cells #[.pointer (some ⟨v, 0, none⟩)] 31 (0, 0)) := ⟨_, rfl⟩
  have hb1 : Below w.heap.size w w1 := by rw [hw1]; exact (Below.refl _ _).alloc (Nat.le_refl _) _
  have hs1 : w1.heap.size = w.heap.size + 1 := by rw [hw1]; simp
  have hbk : w1.heap[w.heap.size]? = some (.cells #[.pointer (some ⟨v, 0, none⟩)] 31 (0, 0)) := by rw [hw1]; exact heap_alloc_new _ _
  have hbx : w1.cell? ⟨w.heap.size, 0, none⟩ = some (.pointer (some ⟨v, 0, none⟩)) := by rw [cell_of_row w1 _ 0 _ _ (0, 0) hbk]; rfl
  have h1 := h.below hb1
  have hr1 := hr.below (hb1.mono hB)
  obtain ⟨d0, d1, d2, _⟩ := h1.cells
  have HE := Lib.hid (vErr_any h1)
  have HS := Lib.hid (memScan_any (k := k) h1.mem h1.ok.w h1.lt (by omega) hWk hr1)
  have H1 := Lib.hid h1
  have HR1 := Lib.hid hr1
  have HB1 := Lib.hid (And.intro hb1 (And.intro hs1 hbx))
  have HF := Lib.hid (And.intro hWf (And.intro hCf hCk))
  have hm : ∀ n (w : World), (method (n + 1) 80 (.map (some m)) "Scan").run Tryz.prog w = .ok (327, .map (some m)) w := fun n w => by kernel_rfl
  obtain ⟨bx, hbxe⟩ : ∃ bx, bx = w.heap.size := ⟨_, rfl⟩
  have HBX := Lib.hid hbxe
  rw [← hbxe] at hbx HB1
  clear hb1 hbk h1 hr1 h hr hWf hWk hCf hCk hs1
  go_enter Tryz.func69, Tryz.ntmps69
  go_wp2_with fail
  rw [← hw1, ← hbxe]
  clear hw1 hbxe
  refine HE.out.mono ?_
  rintro e w1' ⟨rfl, rfl⟩
  go_wp2_with fail
  refine HS.out.mono ?_
  rintro e w2 ⟨u, ps, rfl, hrow2, hps, hb2⟩
  have h2 := H1.out.below hb2
  have HMe := Lib.hid (vMeet_any h2)
  have hbx2 : w2.cell? ⟨bx, 0, none⟩ = some (.pointer (some ⟨v, 0, none⟩)) := (hb2.cell (p := ⟨bx, 0, none⟩) (by have := HB1.out.2.1; show bx < w1.heap.size; omega)).trans hbx
  have hpl : ps.length ≤ S.W.length := by
    rw [hps.length_eq]
    exact List.length_filter_le _ _
  have hsh := hrow2.shape
  rw [List.length_map] at hsh
  obtain ⟨PA, PK, rfl⟩ := hsh
  have HD := Lib.hid (delF_view H1.out hb2 hbx2 (base := w1.heap.size + 1) (by have := HB1.out.2.1; omega) (by omega) (Nat.le_refl _) hrow2 (by have := HF.out.1; omega))
  have H2 := Lib.hid h2
  have HP := Lib.hid (And.intro hps (And.intro hpl hb2))
  clear hrow2 hps hpl hb2 h2
  go_wp2_with fail
  refine HMe.out.mono ?_
  rintro e w2' ⟨rfl, rfl⟩
  go_wp2_with fail
  refine HD.out.mono ?_
  rintro e w3 ⟨n', k', rfl, hn', hrow3, hb3⟩
  obtain ⟨hps, hpl, hb12⟩ := HP.out
  have hb13 : RowKit.Below w1.heap.size w1 w3 := hb12.trans (hb3.mono (Nat.le_succ _))
  obtain ⟨l1, hl1⟩ : ∃ l1 : TL, l1 = ps.filter fun q => !(lookT S.C q.1).isSome := ⟨_, rfl⟩
  rw [← hl1] at hn' hrow3
  have hl1len : l1.length ≤ 2147483647 := by
    have := HF.out.1
    rw [hl1]
    have := List.length_filter_le (fun q => !(lookT S.C q.1).isSome) ps
    omega
  have hrB : B ≤ w1.heap.size := by have := HB1.out.1.size; omega
  have hconv : (convert 86 9 (.slice A n k)).run Tryz.prog w3 = .ok (encStr (tx l)) w3 := (HR1.out.below (hb13.mono hrB)).conv k
  have hbx3 : w3.cell? ⟨bx, 0, none⟩ = some (.pointer (some ⟨v, 0, none⟩)) := (hb13.cell (p := ⟨bx, 0, none⟩) (by have := HB1.out.2.1; show bx < w1.heap.size; omega)).trans hbx
  have h3 := H1.out.below hb13
  obtain ⟨f0, f1, f2, _⟩ := h3.cells
  obtain ⟨f, hS1, hf⟩ := H1.out.chg
  have hcl : c < w1.heap.size := H1.out.chg.lt
  have hS3 := hS1.of_block (hb13.block c hcl)
  obtain ⟨w4, cnt0, hrange, hR4, hcnt0, hg4, hs4⟩ := hS3.range Tryz.underlying81
  have hb34 : RowKit.Below w3.heap.size w3 w4 := (RowKit.Below.refl _ _).grown hg4 (Nat.le_refl _) (fun k h => by cases h)
  have hleft0 : (fun x => (f x).isSome) = fun x => (lookT S.C x).isSome := by
    funext x
    cases hl : lookT S.C x with
    | none => rw [(hf x).1 hl]; rfl
    | some d => obtain ⟨u, e, _⟩ := (hf x).2 d hl; rw [e]; rfl
  rw [hleft0] at hR4
  have HMAP := Lib.hid (show ∀ W, RowKit.Below w1.heap.size w1 W → ∀ x y, f x = some y → ∃ d, lookT S.C x = some d ∧ chVal W X y d from by
    intro W hW x y hx
    cases hl : lookT S.C x with
    | none => rw [(hf x).1 hl] at hx; cases hx
    | some d =>
      obtain ⟨u, e, hu⟩ := (hf x).2 d hl
      rw [e] at hx
      cases hx
      exact ⟨d, rfl, hu.keep hW.size (fun _ _ h => h) (fun k hk _ => hW.block k hk)⟩)
  have hrow4 : RangeRows w4 w3.heap.size w1.heap.size (.slice PA n' k') (l1.map kvOf) := hrow3.rebase hb34 (Nat.le_refl _) (by omega) (Nat.le_succ _)
  obtain ⟨r2, hr2⟩ : ∃ r2, r2 = w3.heap.size := ⟨_, rfl⟩
  have hr1r2 : w1.heap.size ≤ r2 := by rw [hr2]; exact hb13.size
  have H0 := Lib.hid (show SRange w4 c r2 S.C.length f (fun x => (lookT S.C x).isSome) cnt0 ∧ RangeRows w4 r2 w1.heap.size (.slice PA n' k') ((l1 ++ []).map kvOf) ∧ CameC S.C (tx l) (fun x => (lookT S.C x).isSome) [] ∧ RowKit.Below w1.heap.size w1 w4 ∧ ([] : TL).length + cnt0 ≤ S.C.length from
    ⟨by rw [hr2]; exact hR4, by rw [List.append_nil, hr2]; exact hrow4, CameC.start _ _, hb13.trans (hb34.mono hb13.size), by simpa using hcnt0⟩)
  have HL1 := Lib.hid (And.intro hl1 (And.intro hl1len hps))
  rw [← hr2] at hrange
  generalize hpst : encStr (tx l) = pst at hconv
  have HPST := Lib.hid hpst
  clear hn' hrow3 hb3 hps hpl hb12 hb13 hl1 hl1len hrB h3 hS1 hf hS3 hR4 hcnt0 hg4 hs4 hb34 hleft0 hrow4 hr2 hpst d0 d1 d2 hbx hbx2
  go_wp2_with fail
  go_loopw [5] (fun u wr => ∃ (left : Txt → Bool) (cnt : Nat) (ms : TL), Hid (SRange wr c r2 S.C.length f left cnt ∧ RangeRows wr r2 w1.heap.size u ((l1 ++ ms).map kvOf) ∧ CameC S.C (tx l) left ms ∧ RowKit.Below w1.heap.size w1 wr ∧ ms.length + cnt ≤ S.C.length)) (fun _ wr => wr.rangeLeft c r2)
  case atStart => exact ⟨_, _, [], H0⟩
  case round =>
    obtain ⟨left, cnt, ms, HR⟩ := hrel
    obtain ⟨hR, hrow, hC, hbel, hcnt⟩ := HR.out
    rcases hR.next 0 with ⟨h0, hl0, hnext⟩ | ⟨x, y, w5, cnt1, hxl, hlx, hfx, hnext, hR1, hlt, hg1, hs1, hen⟩
    · obtain ⟨hl1, hl1len, hps⟩ := HL1.out
      have hleft : left = fun _ => false := funext hl0
      rw [hleft] at hC
      have hml : ms.length ≤ 32767 := by have := HF.out.2.1; omega
      have hsh := hrow.shape
      obtain ⟨A5, k5, rfl⟩ := hsh
      have hrow' := hrow
      rw [hl1] at hrow'
      have HSo := Lib.hid (scan_sorts H1.out.ok hrow' hps hC (by rw [← hl1, List.length_append]; omega))
      rw [← hl1] at HSo
      have HBE := Lib.hid hbel
      generalize (List.map kvOf (l1 ++ ms)).length = n5 at HSo ⊢
      clear hR hrow hrow' hC hbel hcnt hl1 hl1len hps hleft hl0 hml HR
      go_wp2_with fail
      refine HSo.out.mono ?_
      rintro e w9 ⟨rfl, hk9, hP9, hb9⟩
      have HFIN := Lib.hid (And.intro hk9 (And.intro hP9 (show RowKit.Below w.heap.size w w9 from by
        have b1 := HB1.out.1
        rw [HBX.out] at b1
        exact b1.trans ((HBE.out.trans hb9).mono b1.size))))
      clear hk9 hP9 hb9
      go_wp2
      go_ret
      exact ⟨A5, n5, k5, rfl, HFIN.out⟩
    · have hrs : r2 < wr.heap.size := hR.lt
      have hbel1 : RowKit.Below w1.heap.size w1 w5 := hbel.grown hg1 (by have := hbel.size; omega) (fun k e => by injection e with e; omega)
      have hrow1 := hrow.turned hg1
      obtain ⟨d, hd, hch⟩ := HMAP.out w5 hbel1 x y hfx
      have hkl := HF.out.2.2 _ (lookT_mem hd)
      have HML := hR.left_eq
      have hsh := hrow.shape
      obtain ⟨UN, UK, rfl⟩ := hsh
      cases d with
      | none =>
        obtain ⟨A3, n3, k3, hy3⟩ : ∃ (A3 : Option Addr) (n3 k3 : Nat), y = .agg #[.bool false, .slice A3 n3 k3] := ⟨none, 0, 0, hch⟩
        subst hy3
        have hX6 : RowKit.Below w5.heap.size w5 (w5.alloc (.cells #[.bool false, .slice A3 n3 k3] 136 (0, 0))) := (RowKit.Below.refl _ _).alloc (Nat.le_refl _) _
        have HN := Lib.hid (show SRange (w5.alloc (.cells #[.bool false, .slice A3 n3 k3] 136 (0, 0))) c r2 S.C.length f (fun z => left z && !decide (z = x)) cnt1 ∧ RangeRows (w5.alloc (.cells #[.bool false, .slice A3 n3 k3] 136 (0, 0))) r2 w1.heap.size (.slice UN (List.map kvOf (l1 ++ ms)).length UK) ((l1 ++ ms).map kvOf) ∧ CameC S.C (tx l) (fun z => left z && !decide (z = x)) ms ∧ RowKit.Below w1.heap.size w1 (w5.alloc (.cells #[.bool false, .slice A3 n3 k3] 136 (0, 0))) ∧ ms.length + cnt1 ≤ S.C.length from
          ⟨hR1.keep (hX6.block c (by have := hbel1.size; omega)) (hX6.block r2 hR1.lt), hrow1.below hX6, hC.skip (fun l' e => by rw [hd] at e; cases e), hbel1.trans (hX6.mono hbel1.size), by omega⟩)
        have HLT := Lib.hid (And.intro hlt (And.intro HML HN.out.1.left_eq))
        generalize encStr x = st at hnext hen
        generalize (List.map kvOf (l1 ++ ms)).length = n5 at HN ⊢
        clear hR hrow hC hbel hcnt hR1 hrow1 hg1 hs1 hd hch hkl hlt HML hX6 hbel1 HR
        go_wp2
        go_roundw
        case rel => exact ⟨_, _, _, HN⟩
        case measure => obtain ⟨q1, q2, q3⟩ := HLT.out; rw [q2, q3]; exact q1
      | some val =>
        obtain ⟨u3, rfl, hsv⟩ := hch
        obtain ⟨A3, n3, k3, rfl, _, z2, z3, _⟩ := hsv
        obtain ⟨w6, hw6⟩ : ∃ w6, w6 = w5.alloc (.cells #[.bool true, .slice A3 n3 k3] 136 (0, 0)) := ⟨_, rfl⟩
        have hX6 : RowKit.Below w5.heap.size w5 w6 := by rw [hw6]; exact (RowKit.Below.refl _ _).alloc (Nat.le_refl _) _
        have hbk6 : w6.heap[w5.heap.size]? = some (.cells #[.bool true, .slice A3 n3 k3] 136 (0, 0)) := by rw [hw6]; exact heap_alloc_new _ _
        have g0 : w6.cell? ⟨w5.heap.size, 0, none⟩ = some (.bool true) := by rw [cell_of_row w6 _ 0 _ _ (0, 0) hbk6]; rfl
        have g1 : w6.cell? ⟨w5.heap.size, 1, none⟩ = some (.slice A3 n3 k3) := by rw [cell_of_row w6 _ 1 _ _ (0, 0) hbk6]; rfl
        have hR6 := hR1.keep (hX6.block c (by have := hbel1.size; omega)) (hX6.block r2 hR1.lt)
        have hrow6 := hrow1.below hX6
        have hbel6 := hbel1.trans (hX6.mono hbel1.size)
        have HPre := Lib.hid (hasPre_any x (tx l) w6)
        rw [HPST.out] at HPre
        cases hpre : (tx l).isPrefixOf x with
        | false =>
          have HN := Lib.hid (show SRange w6 c r2 S.C.length f (fun z => left z && !decide (z = x)) cnt1 ∧ RangeRows w6 r2 w1.heap.size (.slice UN (List.map kvOf (l1 ++ ms)).length UK) ((l1 ++ ms).map kvOf) ∧ CameC S.C (tx l) (fun z => left z && !decide (z = x)) ms ∧ RowKit.Below w1.heap.size w1 w6 ∧ ms.length + cnt1 ≤ S.C.length from
            ⟨hR6, hrow6, hC.skip (fun l' _ => hpre), hbel6, by omega⟩)
          have HLT := Lib.hid (And.intro hlt (And.intro HML hR6.left_eq))
          rw [hpre] at HPre
          generalize encStr x = st at hnext hen HPre
          generalize (List.map kvOf (l1 ++ ms)).length = n5 at HN ⊢
          clear hR hrow hC hbel hcnt hR1 hrow1 hg1 hs1 hd hkl hlt HML hX6 hbel1 HR hR6 hrow6 hbel6 z3 hbk6
          go_wp2_with fail
          rw [← hw6]
          clear hw6
          refine HPre.out.mono ?_
          rintro e w7 ⟨rfl, rfl⟩
          go_wp2
          go_roundw
          case rel => exact ⟨_, _, _, HN⟩
          case measure => obtain ⟨q1, q2, q3⟩ := HLT.out; rw [q2, q3]; exact q1
        | true =>
          have HPO := Lib.hid (pairOf_any w6 x hkl (k := k3) (z3.below hX6) hX6.size z2)
          have HLN := Lib.hid (show (l1 ++ ms).length ≤ 4294967296 by rw [List.length_append]; have := HL1.out.2.1; have := HF.out.2.1; omega)
          have hC1 := hC.step hd hlx hpre
          have HC := Lib.hid (And.intro hC1 (And.intro (show (ms ++ [(x, val)]).length + cnt1 ≤ S.C.length by rw [List.length_append]; simp; omega) (And.intro hbel6 (And.intro hrow6 (And.intro hR6 (And.intro (show r2 < w6.heap.size from Nat.lt_of_lt_of_le hR1.lt hX6.size) (show ((l1 ++ ms).map kvOf).length ≤ 4294967296 by rw [List.length_map, List.length_append]; have := HL1.out.2.1; have := HF.out.2.1; omega)))))))
          have HLT := Lib.hid (And.intro hlt HML)
          rw [hpre] at HPre
          generalize encStr x = st at hnext hen HPre HPO
          generalize (List.map kvOf (l1 ++ ms)).length = n5 at HC ⊢
          clear hR hrow hC hbel hcnt hR1 hrow1 hg1 hs1 hd hkl hlt HML hX6 hbel1 HR hR6 hrow6 hbel6 z3 hbk6 hC1
          go_wp2_with fail
          rw [← hw6]
          clear hw6
          refine HPre.out.mono ?_
          rintro e w7 ⟨rfl, rfl⟩
          go_wp2_with fail
          refine HPO.out.mono ?_
          rintro e w7 ⟨x1, x2, rfl, hx1, hx2, hb7⟩
          obtain ⟨c1, c2, c3, c4, c5, c6, c7⟩ := HC.out
          have hX8 : RowKit.Below w7.heap.size w7 (w7.alloc (.cells #[x1, x2] 88 (0, 0))) := (RowKit.Below.refl _ _).alloc (Nat.le_refl _) _
          have hb8 := hb7.trans (hX8.mono hb7.size)
          obtain ⟨v', w9, hrun, hR9, hb9, hg9, ho9⟩ := c4.push (x := kvOf (x, val)) hb8 (hx1.keep hX8.size (fun _ _ h => h) (fun k hk _ => hX8.block k hk)) (hx2.keep hX8.size (fun _ _ h => h) (fun k hk _ => hX8.block k hk)) (heap_alloc_new _ _) (by rw [List.length_map]; exact HLN.out) (by have := hb8.size; have := c3.size; have := HB1.out.2.1; omega) 43
          have hne : (Value.slice UN n5 UK).ownBlock ≠ some r2 := by obtain ⟨Y, _, _, _, _, q⟩ := c4; exact q
          have hb69 : RowKit.Below w1.heap.size w6 w9 := (hb8.mono c3.size).trans hb9
          have HN := Lib.hid (show SRange w9 c r2 S.C.length f (fun z => left z && !decide (z = x)) cnt1 ∧ RangeRows w9 r2 w1.heap.size v' ((l1 ++ (ms ++ [(x, val)])).map kvOf) ∧ CameC S.C (tx l) (fun z => left z && !decide (z = x)) (ms ++ [(x, val)]) ∧ RowKit.Below w1.heap.size w1 w9 ∧ (ms ++ [(x, val)]).length + cnt1 ≤ S.C.length from
            ⟨c5.keep (hb69.block c hcl) ((hg9.block r2 (Nat.lt_of_lt_of_le c6 hb8.size) (fun e => hne e.symm)).trans (hb8.block r2 c6)), by rw [← List.append_assoc, List.map_append]; exact hR9, c1, c3.trans hb69, c2⟩)
          have HLE := Lib.hid HN.out.1.left_eq
          have HRUN := Lib.hid hrun
          obtain ⟨B1, m1, o1, rfl, _⟩ := hx1
          obtain ⟨B2, m2, o2, rfl, _⟩ := hx2
          clear hX8 hb8 hR9 hb9 hg9 ho9 hb69 hb7 c1 c2 c3 c4 c5 c6 c7 hrun hne
          go_wp2_with (at_builtin; refine Lib.wpList_append_run _ rfl _ _ _ _ rfl _ _ rfl rfl _ _ HRUN.out ?_)
          go_roundw
          case rel => exact ⟨_, _, _, HN⟩
          case measure => obtain ⟨q1, q2⟩ := HLT.out; rw [q2, HLE.out]; exact q1
end

end Go.Proofs.YtlpjggilkfpleaaGreat
