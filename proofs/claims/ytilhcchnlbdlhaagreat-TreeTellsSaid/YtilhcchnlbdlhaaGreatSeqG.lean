/-
  The texts SeqS, SeqG joined. Conditions: those that each part says at its head.
-/
import Derived.Test.YtilhcchnlbdlhaaGreatRefF
import Derived.Test.YtilhcchnlbdlhaaGreatSeqP

/-
  Contracts of the document's own numbering over its own view: Num, Last, Next, Set. Condition: which number is an int; tables of fewer than 2^31 pairs.
-/
namespace Go.Proofs.YtilhcchnlbdlhaaGreat
open Go.RowKit Go.Maps
set_option maxRecDepth 100000
set_option linter.unusedVariables false

/-- What a call made lies apart from all that was there. -/
theorem own_sv {w w' : World} {u : Value} {l : List Int} (h : OwnB w w' u l) (hl : AllBytes l) (hlen : l.length ≤ 140737488355328) : SV w' (fun k => k < w.heap.size) u l := by
  obtain ⟨A, c, rfl, h1, h2⟩ := h.read hl
  refine ⟨A, l.length, c, rfl, h1, hlen, h2, fun a ha hn => ?_⟩
  rcases h.1.2 with h' | ⟨k, cap, cur, e, hk, _⟩
  · obtain ⟨_, h0⟩ := h'
    omega
  · cases e
    cases ha
    exact Nat.not_lt.2 hk
section
variable {w w' : World} {X : Nat → Prop} {x p q r : Nat} {a b d : TL}
/-- A call of the plain Key over a row of one int. -/
theorem rKeyOne_any (n : Int) (W : World) (g : Nat) (T : TypeId) (h : W.heap[g]? = some (.cells #[.int .i64 n] T (0, 0))) (hn : -9223372036854775808 ≤ n ∧ n ≤ 9223372036854775807) :
    Calls Tryz.prog 53 #[.int .u8 83, .slice (some ⟨g, 0, none⟩) 1 1] W fun e w' => ∃ A c, e = .returned (.slice A 5 c) ∧ SV w' (fun k => k < W.heap.size) (.slice A 5 c) (keyL 83 [n]) ∧ Below W.heap.size W w' := by
  have hr : RI W W.heap.size (some ⟨g, 0, none⟩) 1 [n] := by
    refine ⟨rfl, fun y hy => by obtain rfl := List.mem_singleton.1 hy; exact hn, fun _ => ⟨g, 0, rfl, (Array.getElem?_eq_some_iff.1 h).1, fun j hj => ?_⟩⟩
    rw [Nat.zero_add, cell_of_row W g j _ T (0, 0) h]
    obtain rfl : j = 0 := by simpa using hj
    rfl
  refine (rKey_any 83 _ 1 1 _ [n] W (by omega) hr (Nat.le_refl _) (Nat.le_refl _) (by decide)).mono ?_
  rintro e w' ⟨u, rfl, ho⟩
  have hs := own_sv ho (tagL_bytes (by omega) _) (by rw [keyOne_len]; omega)
  obtain ⟨A, c, rfl, h1, h2⟩ := ho.read (tagL_bytes (by omega) _)
  rw [keyOne_len] at hs ⊢
  exact ⟨A, c, rfl, hs, ho.2⟩
theorem rPackOne_any (n : Int) (W : World) (g : Nat) (T : TypeId) (h : W.heap[g]? = some (.cells #[.int .i64 n] T (0, 0))) (hn : -9223372036854775808 ≤ n ∧ n ≤ 9223372036854775807) :
    Calls Tryz.prog 110 #[.slice (some ⟨g, 0, none⟩) 1 1] W fun e w' => ∃ A c, e = .returned (.slice A 8 c) ∧ SV w' (fun k => k < W.heap.size) (.slice A 8 c) (packN 8 [n]) ∧ Below W.heap.size W w' := by
  have hr : RI W W.heap.size (some ⟨g, 0, none⟩) 1 [n] := by
    refine ⟨rfl, fun y hy => by obtain rfl := List.mem_singleton.1 hy; exact hn, fun _ => ⟨g, 0, rfl, (Array.getElem?_eq_some_iff.1 h).1, fun j hj => ?_⟩⟩
    rw [Nat.zero_add, cell_of_row W g j _ T (0, 0) h]
    obtain rfl : j = 0 := by simpa using hj
    rfl
  refine (rPack_any _ 1 1 _ [n] W hr (Nat.le_refl _) (Nat.le_refl _) (by decide)).mono ?_
  rintro e w' ⟨u, rfl, ho⟩
  have e8 : (packN 8 ([n].take 15)).length = 8 := by rw [packN_length]; rfl
  have hs := own_sv ho (packN_bytes _ _) (by rw [e8]; omega)
  obtain ⟨A, c, rfl, h1, h2⟩ := ho.read (packN_bytes _ _)
  rw [e8] at hs ⊢
  exact ⟨A, c, rfl, hs, ho.2⟩

theorem apart_of {W W' : World} {s : Nat} {u : Value} {l : List Int} (h : SV W (fun k => k < s) u l) (hX : ∀ k, X k → k < s) (hb : Below W.heap.size W W') : SV W' X u l :=
  h.keep hb.size (fun k _ hn hx => hn (hX k hx)) (fun k hk _ => hb.block k hk)
end
end Go.Proofs.YtilhcchnlbdlhaaGreat

/-
  Both views behind j calls of Put, Set, Next: what each round does. No condition beyond what each says.
-/
namespace Go.Proofs.YtilhcchnlbdlhaaGreat
open Go.RowKit Go.Maps
set_option maxRecDepth 100000
set_option linter.unusedVariables false

/-- Behind j calls, none of them a commit. -/
structure SmallS (S : VS) (a b d : TL) (j : Nat) : Prop where
  c : S.C.length ≤ j
  b : b.length ≤ j
  d : d.length ≤ j
  w : S.W = []
  kc : ∀ p ∈ S.C, p.1.length ≤ 60
section
variable {S : VS} {a b d : TL} {j : Nat}
theorem SmallS.start : SmallS ⟨[], []⟩ [] [] [] 0 := ⟨Nat.le_refl _, Nat.le_refl _, Nat.le_refl _, rfl, fun p (h : p ∈ ([] : List (Txt × Option (List Int)))) => absurd h List.not_mem_nil⟩
theorem SmallS.more (h : SmallS S a b d j) : SmallS S a b d (j + 1) := ⟨Nat.le_succ_of_le h.c, Nat.le_succ_of_le h.b, Nat.le_succ_of_le h.d, h.w, h.kc⟩
theorem SmallS.put (h : SmallS S a b d j) {x : Txt} (hx : x.length ≤ 60) (v : List Int) : SmallS (S.put x v) a (setT b x v) (setT d x []) (j + 1) :=
  ⟨Nat.le_trans (setT_len _ _ _) (Nat.succ_le_succ h.c), Nat.le_trans (setT_len _ _ _) (Nat.succ_le_succ h.b), Nat.le_trans (setT_len _ _ _) (Nat.succ_le_succ h.d), h.w, fun p hp => by
    rcases mem_setT hp with rfl | hp
    · exact hx
    · exact h.kc p hp⟩
end
theorem TabAt.wider0_ {w : World} {X X' : Nat → Prop} {t : Nat} (h : TabAt w X t []) (hx : ∀ k, X k → X' k) : TabAt w X' t [] := by
  obtain ⟨A, n, c, h1, h2, h3⟩ := h
  exact ⟨A, n, c, h1, hx _ h2, h3.1, h3.2.1, fun hn => by have := h3.2.1; simp at this; omega⟩
theorem sv_of_ {w : World} {B : Nat} {X : Nat → Prop} {A : Option Addr} {n k : Nat} {l : List Int} (hr : RB w B A n l) (hB : B ≤ w.heap.size) (hX : ∀ k, X k → B ≤ k) (hk : n ≤ k) (hn : n ≤ 140737488355328) : SV w X (.slice A n k) l :=
  ⟨A, n, k, rfl, hk, hn, ⟨hr.1, hr.2.1, fun hn => by
    obtain ⟨b, o, e, hb, h⟩ := hr.2.2 hn
    exact ⟨b, o, e, Nat.lt_of_lt_of_le hb hB, h⟩⟩, fun a ha hp hx => by
    obtain ⟨b, o, e, hb, _⟩ := hr.2.2 hp
    rw [ha] at e
    cases e
    exact absurd (hX b hx) (Nat.not_le.2 hb)⟩

set_option maxHeartbeats 1600000 in
theorem vSet_any {w : World} {X : Nat → Prop} {x p q r : Nat} {a b d : TL} (h : RefAt w X x p q r a b d) (hN : b.length ≤ 2147483647) (hD : d.length ≤ 2147483647) {A A' : Option Addr} {n k n' k' : Nat} {l l' : List Int} (hr : SV w X (.slice A n k) l) (hr' : SV w X (.slice A' n' k') l') :
    Calls Tryz.prog 18 #[.pointer (some ⟨x, 0, none⟩), .agg #[.slice A n k, .slice A' n' k']] w fun e w' => e = .returned (.tuple #[]) ∧
      RefAt w' X x p q r a (if putE l l' = 0 then setT b (tx l) l' else b) (if putE l l' = 0 then setT d (tx l) [] else d) ∧ Touch (fun k => k = q ∨ k = r) w w' := by
  have hba : RowKit.Below w.heap.size w (w.alloc (.cells #[.slice A n k, .slice A' n' k'] 46)) := (RowKit.Below.refl _ _).alloc (Nat.le_refl _) _
  have c0 : (w.alloc (.cells #[.slice A n k, .slice A' n' k'] 46)).cell? ⟨w.heap.size, 0, none⟩ = some (.slice A n k) := cell_of_row _ _ 0 _ _ (0, 0) (heap_alloc_new w _)
  have c1 : (w.alloc (.cells #[.slice A n k, .slice A' n' k'] 46)).cell? ⟨w.heap.size, 1, none⟩ = some (.slice A' n' k') := cell_of_row _ _ 1 _ _ (0, 0) (heap_alloc_new w _)
  have HP := Lib.hid (rvPut_any (h.below hba) hN hD (hr.keep hba.size (fun _ _ h => h) (fun k hk _ => hba.block k hk)) (hr'.keep hba.size (fun _ _ h => h) (fun k hk _ => hba.block k hk)))
  generalize (if putE l l' = 0 then setT b (tx l) l' else b) = b' at HP ⊢
  generalize (if putE l l' = 0 then setT d (tx l) [] else d) = d' at HP ⊢
  generalize putE l l' = pe at HP
  have HB := Lib.hid hba
  clear h hr hr' hba
  go_enter Tryz.func18, Tryz.ntmps18
  go_wp2_with fail
  refine HP.out.mono ?_
  rintro e w2 ⟨rfl, h2, t2⟩
  have HE := Lib.hid (And.intro h2 ((Touch.of_below HB.out).trans t2))
  clear h2 t2 HP HB c0 c1
  go_wp2_with fail
  go_end0
  exact ⟨rfl, HE.out⟩

/-- Both views behind j calls; their own blocks lie from B on. -/
def SeqInv (w0 : World) (B j : Nat) (v m c x : Nat) (w : World) : Prop :=
  ∃ (X : Nat → Prop) (p q r : Nat) (S : VS) (a b d : TL), Both w X v m c x p q r S a b d ∧ SmallS S a b d j ∧ (∀ k, X k → B ≤ k) ∧ RowKit.Below B w0 w
section
variable {w w0 : World} {v m c x B j : Nat}
theorem SeqInv.below {w' : World} (h : SeqInv w0 B j v m c x w) (hB : B ≤ w.heap.size) (h2 : RowKit.Below w.heap.size w w') : SeqInv w0 B j v m c x w' := by
  obtain ⟨X, p, q, r, S, a, b, d, hb, hs, hX, hw⟩ := h
  exact ⟨X, p, q, r, S, a, b, d, hb.below h2, hs, hX, hw.trans (h2.mono hB)⟩
theorem SeqInv.was (h : SeqInv w0 B j v m c x w) : RowKit.Below B w0 w := by
  obtain ⟨X, p, q, r, S, a, b, d, hb, hs, hX, hw⟩ := h
  exact hw
theorem seq_start {w1 w2 : World} {v m c x p q r B : Nat} (hv : ViewAt w1 (fun k => False ∨ k = v ∨ k = m ∨ k = c) v m c ⟨[], []⟩) (hr : RefAt w2 (fun k => w1.heap.size ≤ k ∧ k < w2.heap.size) x p q r [] [] []) (hb : RowKit.Below w1.heap.size w1 w2)
    (h1 : B ≤ v) (h2 : B ≤ m) (h3 : B ≤ c) (h4 : B ≤ w1.heap.size) : SeqInv w2 B 0 v m c x w2 := by
  have hV : ViewAt w2 (fun k => (k = v ∨ k = m ∨ k = c) ∨ (w1.heap.size ≤ k ∧ k < w2.heap.size)) v m c ⟨[], []⟩ :=
    hv.keep hb.size (fun k hk hn he => by
      rcases he with he | he
      · exact hn (.inr he)
      · omega) (fun k hk => by
      rcases hk with hk | hk
      · exact hk.elim
      · exact .inl hk) (fun k hk => by
      rcases hk with hk | hk
      · exact Nat.lt_of_lt_of_le (hv.lt k (.inr hk)) hb.size
      · exact hk.2) (fun k hk _ => hb.block k hk)
  have hR : RefAt w2 (fun k => (k = v ∨ k = m ∨ k = c) ∨ (w1.heap.size ≤ k ∧ k < w2.heap.size)) x p q r [] [] [] :=
    ⟨hr.me, .inr hr.own, hr.was.wider0_ fun k hk => .inr hk, hr.now.wider0_ fun k hk => .inr hk, hr.told.wider0_ fun k hk => .inr hk, hr.apart, hV.lt⟩
  refine ⟨_, p, q, r, _, _, _, _, ⟨hV, hR, Link.start, fun i hi => ?_⟩, SmallS.start, fun k hk => ?_, RowKit.Below.refl _ _⟩
  · have hi1 := hv.lt i (.inr hi)
    have e1 := hr.own.1
    have e2 := hr.was.own.1
    have e3 := hr.now.own.1
    have e4 := hr.told.own.1
    omega
  · rcases hk with (hk | hk | hk) | hk
    · omega
    · omega
    · omega
    · omega
/-- Put at the program's view, then Set at the document's; the pair's bytes lie below B, block g (a caller's own) stands. -/
theorem SeqInv.put (h : SeqInv w0 B j v m c x w) (hj : j ≤ 100) (hB : B ≤ w.heap.size) {A A' : Option Addr} {n k n' k' : Nat} {l l' : List Int} (hr : RB w B A n l) (hn : n ≤ 200) (hk : n ≤ k) (hr' : RB w B A' n' l') (hn' : n' ≤ 400) (hk' : n' ≤ k') {o : Obj} :
    Calls Tryz.prog 17 #[.pointer (some ⟨v, 0, none⟩), .slice A n k, .slice A' n' k'] (w.alloc o) fun e w1 => e = .returned (.int .i64 (putE l l')) ∧ w1.heap[w.heap.size]? = some o ∧ 
    Calls Tryz.prog 18 #[.pointer (some ⟨x, 0, none⟩), .agg #[.slice A n k, .slice A' n' k']] w1 fun e w2 => e = .returned (.tuple #[]) ∧ SeqInv w0 B (j + 1) v m c x w2 ∧ w.heap.size ≤ w2.heap.size := by
  obtain ⟨X, p, q, r, S, a, b, d, hb0, hs, hX, hw0⟩ := h
  have hba : RowKit.Below w.heap.size w (w.alloc o) := (RowKit.Below.refl _ _).alloc (Nat.le_refl _) _
  have hb := hb0.below hba
  have hw := hw0.trans (hba.mono hB)
  have hBa := Nat.le_trans hB hba.size
  have hgX : ¬ X w.heap.size := fun hx => Nat.lt_irrefl _ (hb0.view.lt _ hx)
  have hr := hr.below (hba.mono hB)
  have hr' := hr'.below (hba.mono hB)
  refine (vPut_any hb.view hr hBa (by unfold maxLen; omega) hr' hBa (by unfold maxLen; omega) (Nat.lt_of_le_of_lt hs.c (by unfold maxLen; omega))).mono ?_
  rintro e w1 ⟨rfl, hv1, ht1⟩
  have ht1' : Touch (fun k => k = m ∨ k = c) (w.alloc o) w1 := ⟨ht1.os, ht1.tape, ht1.output, ht1.size, fun k hk hn => ht1.block k hk fun e => hn (.inr e)⟩
  have hb1 : RowKit.Below B (w.alloc o) w1 := ht1.below (fun k hk => by rw [hk]; exact hX _ hb.view.xc) hBa
  have hB1 := Nat.le_trans hBa ht1.size
  have hg1 : w1.heap[w.heap.size]? = some o := (ht1.block w.heap.size (by simp) fun e => hgX (e ▸ hb.view.xc)).trans (heap_alloc_new w o)
  refine ⟨rfl, hg1, ?_⟩
  refine (vSet_any (hb.afterView ht1') (Nat.le_trans hs.b (by omega)) (Nat.le_trans hs.d (by omega)) (sv_of_ (hr.below hb1) hB1 hX hk (by omega)) (sv_of_ (hr'.below hb1) hB1 hX hk' (by omega))).mono ?_
  rintro e w2 ⟨rfl, hr2, ht2⟩
  have hbel : RowKit.Below B (w.alloc o) w2 := hb1.trans (ht2.below (fun k hk => by rcases hk with e | e; rw [e]; exact hX _ hb.ref.now.own; rw [e]; exact hX _ hb.ref.told.own) hB1)
  have hsz : w.heap.size ≤ w2.heap.size := Nat.le_trans hba.size (Nat.le_trans ht1.size ht2.size)
  refine ⟨rfl, ?_, hsz⟩
  unfold VS.putR at hv1
  by_cases e0 : putE l l' = 0
  · have hx : (tx l).length ≤ 60 := by
      rw [tx_length, hr.len]
      unfold putE at e0
      rw [hr.len] at e0
      by_cases q : n < 1 ∨ n > 32 ∨ l'.length > 120
      · rw [if_pos q] at e0; cases e0
      · omega
    rw [if_pos e0] at hv1
    rw [if_pos e0, if_pos e0] at hr2
    exact ⟨X, p, q, r, _, _, _, _, hb.turn hv1 hr2 ht1' ht2 (hb.link.put (tx l) l'), hs.put hx l', hX, hw.trans hbel⟩
  · rw [if_neg e0] at hv1
    rw [if_neg e0, if_neg e0] at hr2
    exact ⟨X, p, q, r, _, _, _, _, hb.turn hv1 hr2 ht1' ht2 hb.link, hs.more, hX, hw.trans hbel⟩
end
end Go.Proofs.YtilhcchnlbdlhaaGreat
