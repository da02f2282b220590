/-
  The texts ExuL, ExuM, ExuN, GenM, ExvA joined. Conditions: those that each part says at its head.
-/
import Derived.Test.YtinhdimalhfgkaaGreatDoorG40
import Derived.Test.YtinhdimalhfgkaaGreatDoorG41
import Derived.Test.YtinhdimalhfgkaaGreatDoorG22
import Derived.Lib.SlBytesConst

/-
  The laws' own pager of so many pages, and what its pages are. Condition: the table that crc.Step reads holds what the program's text lays in it when the law begins.
-/
namespace Go.Proofs.YtinhdimalhfgkaaGreatDoor
open Go.RowKit
set_option maxRecDepth 100000
set_option linter.unusedVariables false

theorem nought_not12 : ¬ isSec nought := by decide +kernel
theorem page_fresh12 {n p : Int} (hp : 0 ≤ p) : pageIn n fresh1 p = zpage := by
  have hn := (pagesOf_nn n).1
  have e : fresh1 (p + 1 + pagesOf n).toNat = nought := by
    unfold fresh1 putF
    rw [if_neg (by omega)]
  unfold pageIn
  rw [e]
  have : (unpackR nought).2.2.2 = 4 := by unfold unpackR; rw [if_neg nought_not12]
  rw [if_pos (.inl (by rw [this]; decide))]
/-- The disk behind Format and Open, of n sectors. -/
def S12 (n : Nat) : DS := (openS (markS (DS.new n) 0 1).2).2.2
theorem S12_facts {n : Nat} (hn : 3 ≤ n ∧ n ≤ 65536) : (S12 n).n = n ∧ Rests (S12 n) fresh1 := by
  obtain ⟨r1, r2, r3, r4, r5, r6, r7⟩ := fresh_log (m := n) hn
  exact ⟨r5, r7⟩
theorem S12_len {n : Nat} (hn : 3 ≤ n ∧ n ≤ 65536) : LenS (S12 n) := fun i hi => by
  obtain ⟨h1, h2⟩ := S12_facts hn
  by_cases hr : i < 0 ∨ i ≥ (S12 n).P
  · exfalso
    unfold loadS at hi
    rw [if_pos hr] at hi
    exact absurd hi (by decide)
  · rw [load_rests (n := (S12 n).n) rfl h2 ⟨by omega, by have e : (S12 n).P = pagesOf (S12 n).n := rfl; omega⟩, page_fresh12 (by omega)]
    decide
section
variable {D : World → (Nat → Prop) → Addr → DS → Prop}
set_option maxHeartbeats 4000000 in
theorem fresh12_any (api : DiskApi D) (w : World) (ht : Tab w ∧ 1 < w.heap.size) {P : Nat} (hP : 1 ≤ P ∧ P ≤ 3000) :
    Calls Tryz.prog 8 #[.int .i64 (P : Int)] w fun e w' => ∃ r b q F p, e = .returned (.pointer (some ⟨r, 0, none⟩)) ∧ PgAt D w' F (pgO F q r b) p (S12 (2 * P + 1)) q 1 r b [] ∧ Below w.heap.size w w' ∧ ∀ k, pgO F q r b k → w.heap.size ≤ k := by
  obtain ⟨m, hm⟩ : ∃ m, m = 2 * P + 1 := ⟨_, rfl⟩
  have hm3 : 3 ≤ m ∧ m ≤ 65536 := by omega
  obtain ⟨r1, r2, r3, r4, r5, r6, r7⟩ := fresh_log (m := m) hm3
  have hfw := law_fresh_open (m := m) hm3
  have hpg : 0 < pagesOf ((m : Nat) : Int) := by unfold pagesOf; omega
  have wr1 : IntKind.i64.wrap (2 * (P : Int)) = 2 * (P : Int) := by rw [IntKind.wrap_i64]; first | (unfold wrap64; omega) | omega
  have wr2 : IntKind.i64.wrap (2 * (P : Int) + 1) = (m : Int) := by rw [IntKind.wrap_i64]; first | (unfold wrap64; omega) | omega
  have HN := Lib.hid (law_new api (w0 := w) (w := w) (n := (m : Int)) (by omega) (by omega) ht (Below.refl _ _))
  rw [show ((m : Nat) : Int).toNat = m from Int.toNat_natCast m] at HN
  rw [← hm]
  clear hm
  go_enter Tryz.func8, Tryz.ntmps8
  go_wp2_with fail
  refine HN.out.mono ?_
  rintro e w1 ⟨p, F1, rfl, L1, _⟩
  have HFM := Lib.hid (law_format api L1 (show (DS.new m).writes ≤ _ from Nat.zero_le _))
  rw [r1] at HFM
  clear L1 HN
  go_wp2_with fail
  refine HFM.out.mono ?_
  rintro e w2 ⟨rfl, F2, L2, _⟩
  have HO := Lib.hid (law_open_ok api L2 hfw r2)
  rw [r3] at HO
  clear L2 HFM
  go_wp2_with fail
  refine HO.out.mono ?_
  rintro e w3 ⟨q, F3, rfl, hq3, L3, _⟩
  have HNP := Lib.hid (pnew_any api L3.d L3.log L3.qF (by
    show 0 < pagesOf ((openS (markS (DS.new m) 0 1).2).2.2.n : Int)
    rw [r5]
    exact hpg))
  have HL3 := Lib.hid L3
  clear L3 HO
  go_wp2_with fail
  refine HNP.out.mono ?_
  rintro e w4 ⟨r, b, rfl, hr4, hb4, P4, hbel4⟩
  have hbs := HL3.out.bel.size
  have HE := Lib.hid (show PgAt D w4 F3 (pgO F3 q r b) p (S12 m) q 1 r b [] ∧ Below w.heap.size w w4 ∧ ∀ k, pgO F3 q r b k → w.heap.size ≤ k from ⟨P4, HL3.out.bel.trans (hbel4.mono hbs), fun k hk => by
    rcases hk with a | a | a | a
    · exact HL3.out.out k a
    · have := HL3.out.q0; omega
    · omega
    · omega⟩)
  clear P4 hbel4 HNP hr4 hb4
  go_wp2_with fail
  go_ret
  exact ⟨r, b, q, F3, p, rfl, HE.out⟩
end
end Go.Proofs.YtinhdimalhfgkaaGreatDoor

/-
  What the laws' own check of layer 12 makes of its store's pages, as plain lists. Condition: there are 200 to 3000 pages.
-/
namespace Go.Proofs.YtinhdimalhfgkaaGreatDoor
open Go.RowKit
set_option maxRecDepth 100000
set_option linter.unusedVariables false

theorem runS_cons (S : DS) (M : MV) (L : List (Int × List Int)) (s : Stp) (ss : List Stp) : runS S M L (s :: ss) = runS S M (stepR S M L s).2 ss := rfl
theorem runS_nil (S : DS) (M : MV) (L : List (Int × List Int)) : runS S M L [] = L := rfl
theorem okS_nil (S : DS) (M : MV) (L : List (Int × List Int)) : okS S M L [] := fun k s h => by simp at h
theorem okS_cons {S : DS} {M : MV} {L : List (Int × List Int)} {s : Stp} {ss : List Stp} (h : (stepR S M L s).1 = 0) (h2 : okS S M (stepR S M L s).2 ss) : okS S M L (s :: ss) := fun k t ht => by
  cases k with
  | zero =>
    obtain rfl : s = t := by simpa using ht
    exact h
  | succ k => exact h2 k t (by simpa using ht)
theorem step_lay {S : DS} {M : MV} {L : List (Int × List Int)} {pg : Int} {l : List Int} (hp : 0 ≤ pg ∧ pg < S.P) (hl : l.length = 240) : stepR S M L (.lay pg l) = (0, setL L pg l) := by
  show (setPgE S pg l, setPg S L pg l) = _
  unfold setPgE setPg
  rw [if_neg (by rw [hl]; omega), if_neg (by rw [hl]; omega)]
theorem step_pt {S : DS} {M : MV} {L : List (Int × List Int)} {slot pg o : Int} {l : List Int} (hok : okD M.d M.l.length slot = true) (hp : 0 ≤ pg ∧ pg < 4294967296) (ho : ownD M.l slot = o) (hg : getPg S L o = (l, 0)) (hoP : 0 ≤ o ∧ o < S.P) (hl : (splice l ((slot % 60).toNat * 4) (putB pg 4)).length = 240) : stepR S M L (.pt slot pg) = (0, setL L o (splice l ((slot % 60).toNat * 4) (putB pg 4))) := by
  show dirSetR S L M.d M.l.length M.l slot pg = _
  unfold dirSetR
  rw [if_pos ⟨hok, hp⟩, ho, hg, if_pos rfl]
  unfold setPgE setPg
  rw [if_neg (by rw [hl]; omega), if_neg (by rw [hl]; omega)]

/-- The check's Metas, pages, and lists of pages. -/
def awM (c : Int) : MV := ⟨0, 0, 3, c, [1]⟩
def awD : List Int := splice (reps 240 0) 0 (putB 2 4)
def awB (ps : List KV) : List Int := pageBk ⟨0, 0, ps⟩
def awL (c : Int) (ps : List KV) : List (Int × List Int) := [(0, metaL (awM c)), (1, awD), (2, awB ps)]
def kA : KV := ([97], [120])
def kB : KV := ([98], [])

section
variable {S : DS}
theorem awLen (hn : 200 ≤ pagesOf S.n ∧ pagesOf S.n ≤ 3000) : LenIs S [] M00 ⟨0, 0, 2, 0, [1]⟩ [.lay 1 (reps 240 0)] :=
  .more (M1 := ⟨0, 0, 2, 0, []⟩) (by decide) (by decide) (by decide) (.inl ⟨rfl, Int.lt_of_lt_of_le (by decide) hn.1, rfl, rfl⟩) (by decide) (.done (by decide))
theorem awTake (hn : 200 ≤ pagesOf S.n ∧ pagesOf S.n ≤ 3000) : TakeIs S [] ⟨0, 0, 2, 0, [1]⟩ 2 (awM 0) := .inl ⟨rfl, Int.lt_of_lt_of_le (by decide) hn.1, rfl, rfl⟩
theorem awFin : finS M00 (awM 0) ([.lay 1 (reps 240 0)] ++ [.pt 0 2] ++ [.lay 2 (pageBk ⟨0, 0, []⟩)]) = [.lay 1 (reps 240 0), .pt 0 2, .lay 2 (awB []), .lay 0 (metaL (awM 0))] := by
  unfold finS
  rw [if_neg (by decide)]
  rfl
theorem awFormat (hP : 200 ≤ S.P ∧ S.P ≤ 3000) : okS S (awM 0) [] [.lay 1 (reps 240 0), .pt 0 2, .lay 2 (awB []), .lay 0 (metaL (awM 0))] ∧ runS S (awM 0) [] [.lay 1 (reps 240 0), .pt 0 2, .lay 2 (awB []), .lay 0 (metaL (awM 0))] = awL 0 [] := by
  have s1 := step_lay (S := S) (M := awM 0) (L := []) (pg := 1) (l := reps 240 0) (by omega) (reps_length _ _)
  have s2 := step_pt (S := S) (M := awM 0) (L := setL [] 1 (reps 240 0)) (slot := 0) (pg := 2) (o := 1) (l := reps 240 0) (by decide) (by decide) (by decide) rfl (by omega) (by decide)
  have s3 := step_lay (S := S) (M := awM 0) (L := setL (setL [] 1 (reps 240 0)) 1 (splice (reps 240 0) (((0 : Int) % 60).toNat * 4) (putB 2 4))) (pg := 2) (l := awB []) (by omega) (by decide)
  have s4 := step_lay (S := S) (M := awM 0) (L := setL (setL (setL [] 1 (reps 240 0)) 1 (splice (reps 240 0) (((0 : Int) % 60).toNat * 4) (putB 2 4))) 2 (awB [])) (pg := 0) (l := metaL (awM 0)) (by omega) (by decide)
  refine ⟨okS_cons (by rw [s1]) (by rw [s1]; exact okS_cons (by rw [s2]) (by rw [s2]; exact okS_cons (by rw [s3]) (by rw [s3]; exact okS_cons (by rw [s4]) (okS_nil _ _ _)))), ?_⟩
  rw [runS_cons, s1, runS_cons, s2, runS_cons, s3, runS_cons, s4, runS_nil]
  rfl
theorem awHead (c : Int) (hc : c = 0 ∨ c = 1 ∨ c = 2) (ps : List KV) : HeadIs S (awL c ps) (awM c) := by
  refine ⟨rfl, ?_, by show 1 ≤ 1000; decide⟩
  show parseM (metaL (awM c)) = (awM c, 0)
  rcases hc with rfl | rfl | rfl <;> kernel_rfl
theorem awChain (hn : 200 ≤ pagesOf S.n ∧ pagesOf S.n ≤ 3000) (c : Int) {ps : List KV} (hb : parseBk (awB ps) = (⟨0, 0, ps⟩, 0)) (key : List Int) : ChainIs S (awL c ps) (awM c) key 2 [⟨2, 0, 0, ps⟩] := by
  have hs : ((slotN (hashL key) (heldD (awM c).d) : Nat) : Int) = 0 := by
    show ((slotN (hashL key) (heldD 0) : Nat) : Int) = 0
    rw [show heldD 0 = 0 from by decide]
    unfold slotN
    omega
  refine ⟨?_, ⟨⟨_, [], rfl, rfl⟩, fun i l hi => ?_, fun i l l' hi hi' => ?_, fun i l hi hi' => ?_⟩, Int.le_trans (show ((1 : Nat) : Int) ≤ 200 by decide) hn.1, Int.le_trans hn.2 (by decide)⟩
  · rw [hs]
    show (if okD 0 1 0 = true then (if (0 : Int) = 0 then (numOf ((awD.drop (((0 : Int) % 60).toNat * 4)).take 4), 0) else _) else (0, 1)) = ((2 : Int), (0 : Int))
    rw [if_pos (by decide), if_pos rfl]
    kernel_rfl
  · obtain rfl : i = 0 := by
      have := (List.getElem?_eq_some_iff.1 hi).1
      simpa using this
    obtain rfl : (⟨2, 0, 0, ps⟩ : Leaf) = l := by simpa using hi
    exact ⟨⟨rfl, hb, by show (-9223372036854775808 : Int) ≤ 2; decide, by show (2 : Int) ≤ 9223372036854775807; decide⟩, by show (0 : Int) ≤ 0; decide⟩
  · have := (List.getElem?_eq_some_iff.1 hi').1
    simp at this
  · obtain rfl : i = 0 := by
      have := (List.getElem?_eq_some_iff.1 hi).1
      simpa using this
    obtain rfl : (⟨2, 0, 0, ps⟩ : Leaf) = l := by simpa using hi
    rfl
theorem awPut (hP : 200 ≤ S.P ∧ S.P ≤ 3000) {c : Int} {ps ps' : List KV} (h0 : (awM (c + 1)) ≠ awM c) (hl : (awB ps').length = 240) (hm : (metaL (awM (c + 1))).length = 240) : okS S (awM (c + 1)) (awL c ps) [.lay 2 (awB ps'), .lay 0 (metaL (awM (c + 1)))] ∧ runS S (awM (c + 1)) (awL c ps) [.lay 2 (awB ps'), .lay 0 (metaL (awM (c + 1)))] = awL (c + 1) ps' := by
  have s3 := step_lay (S := S) (M := awM (c + 1)) (L := awL c ps) (pg := 2) (l := awB ps') (by omega) hl
  have s4 := step_lay (S := S) (M := awM (c + 1)) (L := setL (awL c ps) 2 (awB ps')) (pg := 0) (l := metaL (awM (c + 1))) (by omega) hm
  refine ⟨okS_cons (by rw [s3]) (by rw [s3]; exact okS_cons (by rw [s4]) (okS_nil _ _ _)), ?_⟩
  rw [runS_cons, s3, runS_cons, s4, runS_nil]
  rfl
end
theorem parse0 : parseBk (awB []) = (⟨0, 0, []⟩, 0) := by kernel_rfl
theorem parse1 : parseBk (awB [kA]) = (⟨0, 0, [kA]⟩, 0) := by kernel_rfl
theorem parse2 : parseBk (awB [kA, kB]) = (⟨0, 0, [kA, kB]⟩, 0) := by kernel_rfl
end Go.Proofs.YtinhdimalhfgkaaGreatDoor

/-
  The check's store: what its calls make of it. Conditions: there are 200 pages.
-/
namespace Go.Proofs.YtinhdimalhfgkaaGreatDoor
open Go.RowKit
set_option maxRecDepth 100000
set_option linter.unusedVariables false

section
variable {D : World → (Nat → Prop) → Addr → DS → Prop} {w0 w w' : World} {F O : Nat → Prop} {p : Addr} {S : DS} {q r b st : Nat} {seq : Int} {L L' : List (Int × List Int)}

theorem awM_next (c : Int) : { awM c with c := (awM c).c + 1 } = awM (c + 1) := rfl
theorem awM_ne (c : Int) : awM (c + 1) ≠ awM c := fun e => by
  have h : c + 1 = c := congrArg MV.c e
  omega
theorem awM_len {c : Int} (h : c = 0 ∨ c = 1 ∨ c = 2) : (metaL (awM c)).length = 240 := by
  rcases h with rfl | rfl | rfl <;> decide +kernel
theorem awM_may {c : Int} (h : c = 0 ∨ c = 1 ∨ c = 2) : mayB (awM c) = true := by
  rcases h with rfl | rfl | rfl <;> decide +kernel
theorem awM_ints {c : Int} (h : c = 0 ∨ c = 1 ∨ c = 2) : IntsM (awM c) := by
  rcases h with rfl | rfl | rfl <;> (unfold IntsM; decide)
theorem finS_two {M M' : MV} (h : sameB M M' = false) (s : Stp) : finS M M' [s] = [s, .lay 0 (metaL M')] := by
  unfold finS
  rw [h]
  rfl

/-- Put in the check's store. -/
theorem awPut_any (api : DiskApi D) (hP : 200 ≤ S.P ∧ S.P ≤ 3000) (hn : 200 ≤ pagesOf S.n ∧ pagesOf S.n ≤ 3000) {c : Int} {ps : List KV} (h : Top D w F O p S q seq r b st (awL c ps)) (hc : c = 0 ∨ c = 1) (hb : parseBk (awB ps) = (⟨0, 0, ps⟩, 0)) {ka va : Option Addr} {kn kc vn vc B B' : Nat} {x : KV} (hk : RB w B ka kn x.1) (hB : B ≤ w.heap.size) (hv : RB w B' va vn x.2) (hB' : B' ≤ w.heap.size) (hkc : kn ≤ kc ∧ kn ≤ maxLen) (hvc : vn ≤ vc ∧ vn ≤ maxLen) (hk1 : 1 ≤ kn ∧ kn ≤ 32) (hv1 : vn ≤ 120)
    (hno : findI ps x.1 < 0) (hfit : 8 + szP (ps ++ [x]) ≤ 240) (hln : ps.length ≤ 100) (hl : (awB (ps ++ [x])).length = 240) (hmay : mayBk ⟨0, 0, ps ++ [x]⟩ = true) :
    Calls Tryz.prog 20 #[.pointer (some ⟨st, 0, none⟩), .slice ka kn kc, .slice va vn vc] w fun e w' => e = .returned (.int .i64 0) ∧ TopAft D w F O p S q seq r b st (awL (c + 1) (ps ++ [x])) w' := by
  have hc1 : c + 1 = 0 ∨ c + 1 = 1 ∨ c + 1 = 2 := by omega
  obtain ⟨ok, run⟩ := awPut hP (c := c) (ps := ps) (ps' := ps ++ [x]) (awM_ne c) hl (awM_len hc1)
  have ef : finS (awM c) (awM (c + 1)) [.lay 2 (awB (ps ++ [x]))] = [.lay 2 (awB (ps ++ [x])), .lay 0 (metaL (awM (c + 1)))] := finS_two (by rcases hc with rfl | rfl <;> decide) _
  rw [← ef] at ok run
  have one : ∀ (j : Nat) (y : Leaf), [(⟨2, 0, 0, ps⟩ : Leaf)][j]? = some y → y = ⟨2, 0, 0, ps⟩ := fun j y hj => by
    have hj0 : j = 0 := by
      have := (List.getElem?_eq_some_iff.1 hj).1
      simpa using this
    subst hj0
    simpa using hj.symm
  have hz : c < 9223372036854775807 ∧ -9223372036854775808 ≤ c := by omega
  refine (store_put api h (awHead c (by omega) ps) hk hB hv hB' hkc hvc hk1 hv1 (awChain hn c hb x.1) (fun m l hm => by rw [one m l hm]; exact hno) ⟨hz.2, hz.1⟩ (m := 0) (l := ⟨2, 0, 0, ps⟩) rfl hfit (fun j y hj => by omega) (fun j y hj => by rw [one j y hj]; exact ⟨by show szP (ps ++ [x]) ≤ _; omega, by show ps.length ≤ _; omega⟩) ⟨by show (-9223372036854775808 : Int) ≤ 2; decide, by show (2 : Int) ≤ 9223372036854775807; decide⟩ ⟨by show (-9223372036854775808 : Int) ≤ 0; decide, by show (0 : Int) ≤ 9223372036854775807; decide⟩ ⟨by show (-9223372036854775808 : Int) ≤ 0; decide, by show (0 : Int) ≤ 9223372036854775807; decide⟩ hmay (awM_ints hc1) (awM_may hc1) ok).mono fun e w' z => ⟨z.1, ?_⟩
  rw [← run]
  exact z.2
/-- Delete in it. -/
theorem awDel_any (api : DiskApi D) (hP : 200 ≤ S.P ∧ S.P ≤ 3000) (hn : 200 ≤ pagesOf S.n ∧ pagesOf S.n ≤ 3000) {c : Int} {ps : List KV} (h : Top D w F O p S q seq r b st (awL (c + 1) ps)) (hc : c = 0 ∨ c = 1) (hb : parseBk (awB ps) = (⟨0, 0, ps⟩, 0)) {ka : Option Addr} {kn kc B : Nat} {key : List Int} (hk : RB w B ka kn key) (hB : B ≤ w.heap.size) (hkc : kn ≤ kc ∧ kn ≤ maxLen)
    {i : Nat} (hfd : findI ps key = (i : Int)) (hi : i < ps.length) (hln : ps.length ≤ 100) (hl : (awB (ps.eraseIdx i)).length = 240) (hmay : mayBk ⟨0, 0, ps.eraseIdx i⟩ = true) :
    Calls Tryz.prog 18 #[.pointer (some ⟨st, 0, none⟩), .slice ka kn kc] w fun e w' => e = .returned (.tuple #[.bool true, .int .i64 0]) ∧ TopAft D w F O p S q seq r b st (awL c (ps.eraseIdx i)) w' := by
  have hc1 : c = 0 ∨ c = 1 ∨ c = 2 := by omega
  have s3 := step_lay (S := S) (M := awM c) (L := awL (c + 1) ps) (pg := 2) (l := awB (ps.eraseIdx i)) (by omega) hl
  have s4 := step_lay (S := S) (M := awM c) (L := setL (awL (c + 1) ps) 2 (awB (ps.eraseIdx i))) (pg := 0) (l := metaL (awM c)) (by omega) (awM_len hc1)
  have em : { awM (c + 1) with c := (awM (c + 1)).c - 1 } = awM c := by
    show (⟨0, 0, 3, c + 1 - 1, [1]⟩ : MV) = ⟨0, 0, 3, c, [1]⟩
    rw [Int.add_sub_cancel]
  have ef : finS (awM (c + 1)) (awM c) [.lay 2 (awB (ps.eraseIdx i))] = [.lay 2 (awB (ps.eraseIdx i)), .lay 0 (metaL (awM c))] := finS_two (by rcases hc with rfl | rfl <;> decide) _
  have ok : okS S (awM c) (awL (c + 1) ps) (finS (awM (c + 1)) (awM c) [.lay 2 (awB (ps.eraseIdx i))]) := by
    rw [ef]
    exact okS_cons (by rw [s3]) (by rw [s3]; exact okS_cons (by rw [s4]) (okS_nil _ _ _))
  have run : runS S (awM c) (awL (c + 1) ps) (finS (awM (c + 1)) (awM c) [.lay 2 (awB (ps.eraseIdx i))]) = awL c (ps.eraseIdx i) := by
    rw [ef, runS_cons, s3, runS_cons, s4, runS_nil]
    rfl
  have hz : c + 1 ≤ 9223372036854775807 ∧ -9223372036854775808 < c + 1 := by omega
  rw [← em] at ok run
  have I1 := awM_ints hc1
  have I2 := awM_may hc1
  rw [← em] at I1 I2
  refine (store_del api h (awHead (c + 1) (by omega) ps) hk hB hkc (awChain hn (c + 1) hb key) ⟨hz.2, hz.1⟩ (m := 0) (i := i) (l := ⟨2, 0, 0, ps⟩) ⟨rfl, hfd, hi, fun m' l' h' => by omega⟩ (.inl rfl) (by show ps.length ≤ _; omega) ⟨by show (-9223372036854775808 : Int) ≤ 2; decide, by show (2 : Int) ≤ 9223372036854775807; decide⟩ ⟨by show (-9223372036854775808 : Int) ≤ 0; decide, by show (0 : Int) ≤ 9223372036854775807; decide⟩ ⟨by show (-9223372036854775808 : Int) ≤ 0; decide, by show (0 : Int) ≤ 9223372036854775807; decide⟩ hmay I1 I2 ok).mono fun e w' z => ⟨z.1, ?_⟩
  rw [← run]
  exact z.2
/-- A store whose every block is new. -/
def AwT (D : World → (Nat → Prop) → Addr → DS → Prop) (w0 w : World) (F : Nat → Prop) (p : Addr) (S : DS) (q : Nat) (seq : Int) (r b st : Nat) (L : List (Int × List Int)) : Prop :=
  ∃ O, Top D w F O p S q seq r b st L ∧ Below w0.heap.size w0 w ∧ ∀ k, O k → w0.heap.size ≤ k
theorem AwT.below (api : DiskApi D) (h : AwT D w0 w F p S q seq r b st L) (hb : Below w.heap.size w w') : AwT D w0 w' F p S q seq r b st L := by
  obtain ⟨O, h1, h2, h3⟩ := h
  exact ⟨O, h1.below api hb, h2.trans (hb.mono h2.size), h3⟩
theorem AwT.aft (hb0 : Below w0.heap.size w0 w) (hO : ∀ k, O k → w0.heap.size ≤ k) (h : TopAft D w F O p S q seq r b st L w') : AwT D w0 w' F p S q seq r b st L ∧ Touch O w w' := by
  obtain ⟨O', h1, h2, h3⟩ := h
  refine ⟨⟨O', h1, hb0.trans (Touch.below (B := w0.heap.size) h2 hO hb0.size), fun k hk => ?_⟩, h2⟩
  rcases h3 k hk with a | a
  · exact hO k a
  · exact Nat.le_trans hb0.size a
end
end Go.Proofs.YtinhdimalhfgkaaGreatDoor

/-
  append of some elements that lie anywhere onto a list whose elements take some cells each and lead to memory, in a row that a call builds. Condition: fewer than 2^32 elements.
-/
namespace Go.Proofs.YtinhdimalhfgkaaGreatDoor
open Go.RowKit
set_option maxRecDepth 100000
set_option linter.unusedVariables false

section
variable {β : Type} {R : World → (Nat → Prop) → List Value → β → Prop} {e : TypeId} {size : Nat} {w w' : World} {Y Y' : Nat → Prop} {base : Nat} {v : Value} {l : List β}
theorem GRow.appendM (K : KeptL R) (h : GRow R e size w Y base v l) {t ty : TypeId} {i0 : TypeInfo} {z : Value} {bytes : Nat} (ht : Tryz.prog.underlying t = some (.slice e)) (hi : Tryz.prog.info? e = some i0) (hz0 : i0.zero = some z) (hz1 : i0.size = size) (hz2 : i0.bytes = bytes) (hzc : z.cells.size = size) (hsz : 0 < size) (hby : bytes ≤ 64)
    {xs : List β} {us : List Value} {ad : Addr} {c : Nat} (hul : us.length = xs.length * size) (hcell : ∀ j u, us[j]? = some u → w.cell? (ad.add j) = some u) (h1 : ∀ u ∈ us, u.oneCell' = true) (hu : ∀ (i : Nat) (x : β), xs[i]? = some x → R w Y ((us.drop (i * size)).take size) x) (hn : l.length ≤ 1073741824) (hm : xs.length ≤ 1073741824) (hbase : base ≤ w.heap.size) :
    ∃ v' w', (Builtin.append_ #[t, t] ty #[v, .slice (some ad) xs.length c]).run Tryz.prog w = .ok v' w' ∧ GRow R e size w' (fun k => Y k ∨ v'.ownBlock = some k) base v' (l ++ xs) ∧ w.grownBy w' v.ownBlock ∧ (v'.ownBlock = v.ownBlock ∨ v'.ownBlock = some w.heap.size) := by
  obtain ⟨vs, hown, hvs⟩ := h.row
  have hvl : vs.length = l.length * size := hown.1
  have hlen : (l ++ xs).length = l.length + xs.length := by simp
  obtain ⟨v', w', hrun, h2, h3, _, h4⟩ := run_append_own_at (P := Tryz.prog) w base t ty e i0 z size bytes ht hi hz0 hz1 hz2 hzc hsz v l.length vs hown ad xs.length c us hul hcell h1 (by unfold maxLen; omega) (by
    have : (l.length + xs.length) * bytes ≤ (l.length + xs.length) * 64 := Nat.mul_le_mul_left _ hby
    omega) hbase
  have hwk : ∀ k, k < w.heap.size → ¬ Y k → w'.heap[k]? = w.heap[k]? := fun k hk hy => h3.block k hk (fun e => hy (h.own k e.symm))
  have far : ∀ {us : List Value} {y : β}, R w Y us y → R w' (fun k => Y k ∨ v'.ownBlock = some k) us y := fun hr => K hr h3.size (fun k hk hy hh => by
    rcases hh with a | a
    · exact hy a
    · rcases h4 with q | q
      · rw [q] at a; exact hy (h.own k a)
      · rw [q] at a; injection a with a; omega) hwk
  refine ⟨v', w', hrun, ⟨⟨vs ++ us, by rw [hlen]; exact h2, fun i y hy => ?_⟩, fun r hr => .inr hr⟩, h3, h4⟩
  rcases Nat.lt_or_ge i l.length with hi' | hi'
  · rw [List.getElem?_append_left hi'] at hy
    have hle : i * size + size ≤ l.length * size := by
      have := Nat.mul_le_mul_right size (show i + 1 ≤ l.length from hi')
      rwa [Nat.add_mul, Nat.one_mul] at this
    rw [List.drop_append_of_le_length (by omega), List.take_append_of_le_length (by rw [List.length_drop]; omega)]
    exact far (hvs i y hy)
  · rw [List.getElem?_append_right hi'] at hy
    obtain ⟨d, rfl⟩ : ∃ d, i = l.length + d := ⟨i - l.length, by omega⟩
    rw [Nat.add_sub_cancel_left] at hy
    have e1 : (vs ++ us).drop ((l.length + d) * size) = us.drop (d * size) := by
      rw [Nat.add_mul, ← hvl, ← List.drop_drop, List.drop_left]
    rw [e1]
    exact far (hu d y hy)
end
end Go.Proofs.YtinhdimalhfgkaaGreatDoor

/-
  A row of pairs that a call builds by append, its bytes apart from some blocks; a bucket's pairs put behind it. Condition: fewer than 2^30 pairs.
-/
namespace Go.Proofs.YtinhdimalhfgkaaGreatDoor
open Go.RowKit
set_option maxRecDepth 100000
set_option linter.unusedVariables false

/-- The cells of a pair. -/
def PairE (w : World) (Y : Nat → Prop) (us : List Value) (x : KV) : Prop :=
  ∃ (ka : Option Addr) (kn kc : Nat) (va : Option Addr) (vn vc : Nat), us = [.slice ka kn kc, .slice va vn vc] ∧ BIn w Y ka kn x.1 ∧ (kn ≤ kc ∧ kn ≤ maxLen) ∧ BIn w Y va vn x.2 ∧ (vn ≤ vc ∧ vn ≤ maxLen)
theorem pairE_kept : KeptL PairE := by
  intro w w' Y Y' us x h hs hY hk
  obtain ⟨ka, kn, kc, va, vn, vc, e, h1, h2, h3, h4⟩ := h
  exact ⟨ka, kn, kc, va, vn, vc, e, h1.grow hs hk hY, h2, h3.grow hs hk hY, h4⟩
theorem info_pairE : (Tryz.prog.info? 95).map (fun i => (i.zero, i.size, i.bytes)) = some (some (.agg #[.slice none 0 0, .slice none 0 0]), 2, 48) := by kernel_rfl

section
variable {w w' : World} {Y Y' : Nat → Prop} {base n c : Nat} {v : Value} {l ps : List KV} {A : Option Addr}
/-- A bucket's pairs behind it. -/
theorem GRow.addPairs (h : GRow PairE 95 2 w Y base v l) (hs : Stays w Y A n ps) (hl : l.length ≤ 1073741824) (hn : n ≤ 1073741824) (hbase : base ≤ w.heap.size) (ty : TypeId) :
    ∃ v' w', (Builtin.append_ #[31, 31] ty #[v, .slice A n c]).run Tryz.prog w = .ok v' w' ∧ GRow PairE 95 2 w' (fun k => Y k ∨ v'.ownBlock = some k) base v' (l ++ ps) ∧ w.grownBy w' v.ownBlock ∧ (v'.ownBlock = v.ownBlock ∨ v'.ownBlock = some w.heap.size) := by
  obtain ⟨i0, hi, hz0, hz1, hz2⟩ := info_parts info_pairE
  obtain ⟨hpl, hp⟩ := hs.pin
  rcases Nat.eq_zero_or_pos n with h0 | h0
  · subst h0
    obtain rfl : ps = [] := List.eq_nil_of_length_eq_zero hpl
    rw [List.append_nil]
    rcases A with _ | ad
    · obtain ⟨vs, hown, hvs⟩ := h.row
      exact ⟨v, w, run_append_none (P := Tryz.prog) (w := w) base 31 ty 95 i0 2 Tryz.underlying31 hi _ _ _ hown c, GRow.keep (R := PairE) pairE_kept h (Nat.le_refl _) (fun k hk hy hy' => by
        rcases hy' with a | a
        · exact hy a
        · exact hy (h.own k a)) (fun _ _ _ => rfl) (fun r hr => ⟨rfl, .inr hr⟩), ⟨rfl, rfl, rfl, Nat.le_refl _, fun _ _ _ => rfl⟩, .inl rfl⟩
    · have := GRow.appendM (R := PairE) pairE_kept h (t := 31) (ty := ty) Tryz.underlying31 hi hz0 hz1 hz2 rfl (by decide) (by decide) (xs := []) (us := []) (ad := ad) (c := c) rfl (fun j u hj => by simp at hj) (fun u hu => by cases hu) (fun i x hx => by simp at hx) hl (by decide) hbase
      rw [List.append_nil] at this
      exact this
  · obtain ⟨b, off, rfl, hb, hYb, hall⟩ := hp h0
    have hget : ∀ (i : Nat) (x : KV), ps[i]? = some x → ∃ us, PairE w Y us x ∧ w.cell? ⟨b, off + i * 2, none⟩ = us[0]? ∧ w.cell? ⟨b, off + i * 2 + 1, none⟩ = us[1]? := fun i x hx => by
      obtain ⟨ka, kn, kc, va, vn, vc, c0, c1, r1, b1, r2, b2⟩ := hall i x hx
      exact ⟨_, ⟨ka, kn, kc, va, vn, vc, rfl, r1, b1, r2, b2⟩, c0, c1⟩
    obtain ⟨us, hul, hup⟩ : ∃ us : List Value, us.length = ps.length * 2 ∧ ∀ (i : Nat) (x : KV), ps[i]? = some x → PairE w Y ((us.drop (i * 2)).take 2) x ∧ w.cell? ⟨b, off + i * 2, none⟩ = us[i * 2]? ∧ w.cell? ⟨b, off + i * 2 + 1, none⟩ = us[i * 2 + 1]? := by
      clear hall hs hpl h0 hp hi hz0 hz1 hz2
      induction ps generalizing off with
      | nil => exact ⟨[], rfl, fun i x hx => by simp at hx⟩
      | cons y r ih =>
        obtain ⟨u0, p0, q0, q1⟩ := hget 0 y rfl
        obtain ⟨us, hul, hup⟩ := ih (off := off + 2) (fun i x hx => by
          have := hget (i + 1) x (by simpa using hx)
          rwa [show off + (i + 1) * 2 = off + 2 + i * 2 by omega] at this)
        obtain ⟨ka, kn, kc, va, vn, vc, rfl, r1, b1, r2, b2⟩ := p0
        refine ⟨.slice ka kn kc :: .slice va vn vc :: us, by simp only [List.length_cons, hul]; omega, fun i x hx => ?_⟩
        cases i with
        | zero =>
          obtain rfl : y = x := by simpa using hx
          exact ⟨⟨ka, kn, kc, va, vn, vc, rfl, r1, b1, r2, b2⟩, q0, q1⟩
        | succ i =>
          obtain ⟨a1, a2, a3⟩ := hup i x (by simpa using hx)
          have e : (i + 1) * 2 = i * 2 + 1 + 1 := by omega
          rw [e]
          refine ⟨a1, ?_, ?_⟩
          · rw [show off + (i * 2 + 1 + 1) = off + 2 + i * 2 by omega]; exact a2
          · rw [show off + (i * 2 + 1 + 1) + 1 = off + 2 + i * 2 + 1 by omega]; exact a3
    rw [← hpl]
    refine GRow.appendM (R := PairE) pairE_kept h Tryz.underlying31 hi hz0 hz1 hz2 rfl (by decide) (by decide) (us := us) hul (fun j u hj => ?_) (fun u hu => ?_) (fun i x hx => (hup i x hx).1) hl (by omega) hbase
    · have hjl := (List.getElem?_eq_some_iff.1 hj).1
      obtain ⟨x, hx⟩ : ∃ x, ps[j / 2]? = some x := ⟨_, List.getElem?_eq_getElem (by omega)⟩
      obtain ⟨_, a2, a3⟩ := hup _ x hx
      have ea : Addr.add ⟨b, off, none⟩ j = ⟨b, off + j, none⟩ := by unfold Addr.add; split <;> simp_all
      rw [ea]
      have h2 : j = j / 2 * 2 ∨ j = j / 2 * 2 + 1 := by omega
      rcases h2 with e | e
      · rw [← hj, show w.cell? ⟨b, off + j, none⟩ = w.cell? ⟨b, off + j / 2 * 2, none⟩ by rw [← e], a2, ← e]
      · rw [← hj, show w.cell? ⟨b, off + j, none⟩ = w.cell? ⟨b, off + j / 2 * 2 + 1, none⟩ by rw [show off + j / 2 * 2 + 1 = off + j by omega], a3, ← e]
    · obtain ⟨j, hj⟩ := List.mem_iff_getElem?.1 hu
      have hjl := (List.getElem?_eq_some_iff.1 hj).1
      obtain ⟨x, hx⟩ : ∃ x, ps[j / 2]? = some x := ⟨_, List.getElem?_eq_getElem (by omega)⟩
      obtain ⟨⟨ka, kn, kc, va, vn, vc, e3, _⟩, _, _⟩ := hup _ x hx
      have g0 : us[j / 2 * 2]? = some (.slice ka kn kc) := by
        have : ((us.drop (j / 2 * 2)).take 2)[0]? = some (.slice ka kn kc) := by rw [e3]; rfl
        rw [List.getElem?_take, if_pos (by decide), List.getElem?_drop] at this
        simpa using this
      have g1 : us[j / 2 * 2 + 1]? = some (.slice va vn vc) := by
        have : ((us.drop (j / 2 * 2)).take 2)[1]? = some (.slice va vn vc) := by rw [e3]; rfl
        rw [List.getElem?_take, if_pos (by decide), List.getElem?_drop] at this
        simpa using this
      have h2 : j / 2 * 2 = j ∨ j / 2 * 2 + 1 = j := by omega
      rcases h2 with e | e
      · rw [e, hj] at g0; cases g0; rfl
      · rw [e, hj] at g1; cases g1; rfl
end
end Go.Proofs.YtinhdimalhfgkaaGreatDoor
