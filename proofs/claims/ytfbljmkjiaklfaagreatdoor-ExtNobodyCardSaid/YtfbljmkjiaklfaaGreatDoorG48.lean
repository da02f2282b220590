/-
  The texts ExuL, ExuM, ExuN, ExuO joined. Conditions: those that each part says at its head.
-/
import Derived.Test.YtfbljmkjiaklfaaGreatDoorG45
import Derived.Test.YtfbljmkjiaklfaaGreatDoorG46
import Derived.Test.YtfbljmkjiaklfaaGreatDoorG47
import Derived.Lib.SlBytesConst

/-
  The laws' own pager of so many pages, and what its pages are. Condition: the table that crc.Step reads holds what the program's text lays in it when the law begins.
-/
namespace Go.Proofs.YtfbljmkjiaklfaaGreatDoor
open Go.RowKit
set_option maxRecDepth 100000
set_option linter.unusedVariables false

theorem nought_not12 : ¬ isSec nought := by decide +kernel
theorem page_fresh12 {n p : Int} (hp : 0 ≤ p) : pageIn n fresh1 p = zpage := by
  have hn := (pagesOf_nn n).1
  have e : fresh1 (p + 1 + pagesOf n).toNat = nought := by
    unfold fresh1 putF
    rw [if_neg (by omega)]
  unfold pageIn
  rw [e]
  have : (unpackR nought).2.2.2 = 4 := by unfold unpackR; rw [if_neg nought_not12]
  rw [if_pos (.inl (by rw [this]; decide))]
/-- The disk behind Format and Open, of n sectors. -/
def S12 (n : Nat) : DS := (openS (markS (DS.new n) 0 1).2).2.2
theorem S12_facts {n : Nat} (hn : 3 ≤ n ∧ n ≤ 65536) : (S12 n).n = n ∧ Rests (S12 n) fresh1 := by
  obtain ⟨r1, r2, r3, r4, r5, r6, r7⟩ := fresh_log (m := n) hn
  exact ⟨r5, r7⟩
theorem S12_len {n : Nat} (hn : 3 ≤ n ∧ n ≤ 65536) : LenS (S12 n) := fun i hi => by
  obtain ⟨h1, h2⟩ := S12_facts hn
  by_cases hr : i < 0 ∨ i ≥ (S12 n).P
  · exfalso
    unfold loadS at hi
    rw [if_pos hr] at hi
    exact absurd hi (by decide)
  · rw [load_rests (n := (S12 n).n) rfl h2 ⟨by omega, by have e : (S12 n).P = pagesOf (S12 n).n := rfl; omega⟩, page_fresh12 (by omega)]
    decide
section
variable {D : World → (Nat → Prop) → Addr → DS → Prop}
set_option maxHeartbeats 4000000 in
theorem fresh12_any (api : DiskApi D) (w : World) (ht : Tab w ∧ 1 < w.heap.size) {P : Nat} (hP : 1 ≤ P ∧ P ≤ 3000) :
    Calls Tryz.prog 7 #[.int .i64 (P : Int)] w fun e w' => ∃ r b q F p, e = .returned (.pointer (some ⟨r, 0, none⟩)) ∧ PgAt D w' F (pgO F q r b) p (S12 (2 * P + 1)) q 1 r b [] ∧ Below w.heap.size w w' ∧ ∀ k, pgO F q r b k → w.heap.size ≤ k := by
  obtain ⟨m, hm⟩ : ∃ m, m = 2 * P + 1 := ⟨_, rfl⟩
  have hm3 : 3 ≤ m ∧ m ≤ 65536 := by omega
  obtain ⟨r1, r2, r3, r4, r5, r6, r7⟩ := fresh_log (m := m) hm3
  have hfw := law_fresh_open (m := m) hm3
  have hpg : 0 < pagesOf ((m : Nat) : Int) := by unfold pagesOf; omega
  have wr1 : IntKind.i64.wrap (2 * (P : Int)) = 2 * (P : Int) := by rw [IntKind.wrap_i64]; first | (unfold wrap64; omega) | omega
  have wr2 : IntKind.i64.wrap (2 * (P : Int) + 1) = (m : Int) := by rw [IntKind.wrap_i64]; first | (unfold wrap64; omega) | omega
  have HN := Lib.hid (law_new api (w0 := w) (w := w) (n := (m : Int)) (by omega) (by omega) ht (Below.refl _ _))
  rw [show ((m : Nat) : Int).toNat = m from Int.toNat_natCast m] at HN
  rw [← hm]
  clear hm
  go_enter Tryz.func7, Tryz.ntmps7
  go_wp2_with fail
  refine HN.out.mono ?_
  rintro e w1 ⟨p, F1, rfl, L1, _⟩
  have HFM := Lib.hid (law_format api L1 (show (DS.new m).writes ≤ _ from Nat.zero_le _))
  rw [r1] at HFM
  clear L1 HN
  go_wp2_with fail
  refine HFM.out.mono ?_
  rintro e w2 ⟨rfl, F2, L2, _⟩
  have HO := Lib.hid (law_open_ok api L2 hfw r2)
  rw [r3] at HO
  clear L2 HFM
  go_wp2_with fail
  refine HO.out.mono ?_
  rintro e w3 ⟨q, F3, rfl, hq3, L3, _⟩
  have HNP := Lib.hid (pnew_any api L3.d L3.log L3.qF (by
    show 0 < pagesOf ((openS (markS (DS.new m) 0 1).2).2.2.n : Int)
    rw [r5]
    exact hpg))
  have HL3 := Lib.hid L3
  clear L3 HO
  go_wp2_with fail
  refine HNP.out.mono ?_
  rintro e w4 ⟨r, b, rfl, hr4, hb4, P4, hbel4⟩
  have hbs := HL3.out.bel.size
  have HE := Lib.hid (show PgAt D w4 F3 (pgO F3 q r b) p (S12 m) q 1 r b [] ∧ Below w.heap.size w w4 ∧ ∀ k, pgO F3 q r b k → w.heap.size ≤ k from ⟨P4, HL3.out.bel.trans (hbel4.mono hbs), fun k hk => by
    rcases hk with a | a | a | a
    · exact HL3.out.out k a
    · have := HL3.out.q0; omega
    · omega
    · omega⟩)
  clear P4 hbel4 HNP hr4 hb4
  go_wp2_with fail
  go_ret
  exact ⟨r, b, q, F3, p, rfl, HE.out⟩
end
end Go.Proofs.YtfbljmkjiaklfaaGreatDoor

/-
  What the laws' own check of layer 12 makes of its store's pages, as plain lists. Condition: there are 200 pages.
-/
namespace Go.Proofs.YtfbljmkjiaklfaaGreatDoor
open Go.RowKit
set_option maxRecDepth 100000
set_option linter.unusedVariables false

theorem runS_cons (S : DS) (M : MV) (L : List (Int × List Int)) (s : Stp) (ss : List Stp) : runS S M L (s :: ss) = runS S M (stepR S M L s).2 ss := rfl
theorem runS_nil (S : DS) (M : MV) (L : List (Int × List Int)) : runS S M L [] = L := rfl
theorem okS_nil (S : DS) (M : MV) (L : List (Int × List Int)) : okS S M L [] := fun k s h => by simp at h
theorem okS_cons {S : DS} {M : MV} {L : List (Int × List Int)} {s : Stp} {ss : List Stp} (h : (stepR S M L s).1 = 0) (h2 : okS S M (stepR S M L s).2 ss) : okS S M L (s :: ss) := fun k t ht => by
  cases k with
  | zero =>
    obtain rfl : s = t := by simpa using ht
    exact h
  | succ k => exact h2 k t (by simpa using ht)
theorem step_lay {S : DS} {M : MV} {L : List (Int × List Int)} {pg : Int} {l : List Int} (hp : 0 ≤ pg ∧ pg < S.P) (hl : l.length = 240) : stepR S M L (.lay pg l) = (0, setL L pg l) := by
  show (setPgE S pg l, setPg S L pg l) = _
  unfold setPgE setPg
  rw [if_neg (by rw [hl]; omega), if_neg (by rw [hl]; omega)]
theorem step_pt {S : DS} {M : MV} {L : List (Int × List Int)} {slot pg o : Int} {l : List Int} (hok : okD M.d M.l.length slot = true) (hp : 0 ≤ pg ∧ pg < 4294967296) (ho : ownD M.l slot = o) (hg : getPg S L o = (l, 0)) (hoP : 0 ≤ o ∧ o < S.P) (hl : (splice l ((slot % 60).toNat * 4) (putB pg 4)).length = 240) : stepR S M L (.pt slot pg) = (0, setL L o (splice l ((slot % 60).toNat * 4) (putB pg 4))) := by
  show dirSetR S L M.d M.l.length M.l slot pg = _
  unfold dirSetR
  rw [if_pos ⟨hok, hp⟩, ho, hg, if_pos rfl]
  unfold setPgE setPg
  rw [if_neg (by rw [hl]; omega), if_neg (by rw [hl]; omega)]

/-- The check's Metas, pages, and lists of pages. -/
def awM (c : Int) : MV := ⟨0, 0, 3, c, [1]⟩
def awD : List Int := splice (reps 240 0) 0 (putB 2 4)
def awB (ps : List KV) : List Int := pageBk ⟨0, 0, ps⟩
def awL (c : Int) (ps : List KV) : List (Int × List Int) := [(0, metaL (awM c)), (1, awD), (2, awB ps)]
def kA : KV := ([97], [120])
def kB : KV := ([98], [])

section
variable {S : DS}
theorem awLen (hn : pagesOf S.n = 200) : LenIs S [] M00 ⟨0, 0, 2, 0, [1]⟩ [.lay 1 (reps 240 0)] :=
  .more (M1 := ⟨0, 0, 2, 0, []⟩) (by decide) (by decide) (by decide) (.inl ⟨rfl, by rw [hn]; decide, rfl, rfl⟩) (by decide) (.done (by decide))
theorem awTake (hn : pagesOf S.n = 200) : TakeIs S [] ⟨0, 0, 2, 0, [1]⟩ 2 (awM 0) := .inl ⟨rfl, by rw [hn]; decide, rfl, rfl⟩
theorem awFin : finS M00 (awM 0) ([.lay 1 (reps 240 0)] ++ [.pt 0 2] ++ [.lay 2 (pageBk ⟨0, 0, []⟩)]) = [.lay 1 (reps 240 0), .pt 0 2, .lay 2 (awB []), .lay 0 (metaL (awM 0))] := by
  unfold finS
  rw [if_neg (by decide)]
  rfl
theorem awFormat (hP : S.P = 200) : okS S (awM 0) [] [.lay 1 (reps 240 0), .pt 0 2, .lay 2 (awB []), .lay 0 (metaL (awM 0))] ∧ runS S (awM 0) [] [.lay 1 (reps 240 0), .pt 0 2, .lay 2 (awB []), .lay 0 (metaL (awM 0))] = awL 0 [] := by
  have s1 := step_lay (S := S) (M := awM 0) (L := []) (pg := 1) (l := reps 240 0) (by rw [hP]; decide) (reps_length _ _)
  have s2 := step_pt (S := S) (M := awM 0) (L := setL [] 1 (reps 240 0)) (slot := 0) (pg := 2) (o := 1) (l := reps 240 0) (by decide) (by decide) (by decide) rfl (by rw [hP]; decide) (by decide)
  have s3 := step_lay (S := S) (M := awM 0) (L := setL (setL [] 1 (reps 240 0)) 1 (splice (reps 240 0) (((0 : Int) % 60).toNat * 4) (putB 2 4))) (pg := 2) (l := awB []) (by rw [hP]; decide) (by decide)
  have s4 := step_lay (S := S) (M := awM 0) (L := setL (setL (setL [] 1 (reps 240 0)) 1 (splice (reps 240 0) (((0 : Int) % 60).toNat * 4) (putB 2 4))) 2 (awB [])) (pg := 0) (l := metaL (awM 0)) (by rw [hP]; decide) (by decide)
  refine ⟨okS_cons (by rw [s1]) (by rw [s1]; exact okS_cons (by rw [s2]) (by rw [s2]; exact okS_cons (by rw [s3]) (by rw [s3]; exact okS_cons (by rw [s4]) (okS_nil _ _ _)))), ?_⟩
  rw [runS_cons, s1, runS_cons, s2, runS_cons, s3, runS_cons, s4, runS_nil]
  rfl
theorem awHead (c : Int) (hc : c = 0 ∨ c = 1 ∨ c = 2) (ps : List KV) : HeadIs S (awL c ps) (awM c) := by
  refine ⟨rfl, ?_, by show 1 ≤ 1000; decide⟩
  show parseM (metaL (awM c)) = (awM c, 0)
  rcases hc with rfl | rfl | rfl <;> kernel_rfl
theorem awChain (hn : pagesOf S.n = 200) (c : Int) {ps : List KV} (hb : parseBk (awB ps) = (⟨0, 0, ps⟩, 0)) (key : List Int) : ChainIs S (awL c ps) (awM c) key 2 [⟨2, 0, 0, ps⟩] := by
  have hs : ((slotN (hashL key) (heldD (awM c).d) : Nat) : Int) = 0 := by
    show ((slotN (hashL key) (heldD 0) : Nat) : Int) = 0
    rw [show heldD 0 = 0 from by decide]
    unfold slotN
    omega
  refine ⟨?_, ⟨⟨_, [], rfl, rfl⟩, fun i l hi => ?_, fun i l l' hi hi' => ?_, fun i l hi hi' => ?_⟩, by rw [hn]; show ((1 : Nat) : Int) ≤ 200; decide, by rw [hn]; decide⟩
  · rw [hs]
    show (if okD 0 1 0 = true then (if (0 : Int) = 0 then (numOf ((awD.drop (((0 : Int) % 60).toNat * 4)).take 4), 0) else _) else (0, 1)) = ((2 : Int), (0 : Int))
    rw [if_pos (by decide), if_pos rfl]
    kernel_rfl
  · obtain rfl : i = 0 := by
      have := (List.getElem?_eq_some_iff.1 hi).1
      simpa using this
    obtain rfl : (⟨2, 0, 0, ps⟩ : Leaf) = l := by simpa using hi
    exact ⟨⟨rfl, hb, by show (-9223372036854775808 : Int) ≤ 2; decide, by show (2 : Int) ≤ 9223372036854775807; decide⟩, by show (0 : Int) ≤ 0; decide⟩
  · have := (List.getElem?_eq_some_iff.1 hi').1
    simp at this
  · obtain rfl : i = 0 := by
      have := (List.getElem?_eq_some_iff.1 hi).1
      simpa using this
    obtain rfl : (⟨2, 0, 0, ps⟩ : Leaf) = l := by simpa using hi
    rfl
theorem awPut (hP : S.P = 200) {c : Int} {ps ps' : List KV} (h0 : (awM (c + 1)) ≠ awM c) (hl : (awB ps').length = 240) (hm : (metaL (awM (c + 1))).length = 240) : okS S (awM (c + 1)) (awL c ps) [.lay 2 (awB ps'), .lay 0 (metaL (awM (c + 1)))] ∧ runS S (awM (c + 1)) (awL c ps) [.lay 2 (awB ps'), .lay 0 (metaL (awM (c + 1)))] = awL (c + 1) ps' := by
  have s3 := step_lay (S := S) (M := awM (c + 1)) (L := awL c ps) (pg := 2) (l := awB ps') (by rw [hP]; decide) hl
  have s4 := step_lay (S := S) (M := awM (c + 1)) (L := setL (awL c ps) 2 (awB ps')) (pg := 0) (l := metaL (awM (c + 1))) (by rw [hP]; decide) hm
  refine ⟨okS_cons (by rw [s3]) (by rw [s3]; exact okS_cons (by rw [s4]) (okS_nil _ _ _)), ?_⟩
  rw [runS_cons, s3, runS_cons, s4, runS_nil]
  rfl
end
theorem parse0 : parseBk (awB []) = (⟨0, 0, []⟩, 0) := by kernel_rfl
theorem parse1 : parseBk (awB [kA]) = (⟨0, 0, [kA]⟩, 0) := by kernel_rfl
theorem parse2 : parseBk (awB [kA, kB]) = (⟨0, 0, [kA, kB]⟩, 0) := by kernel_rfl
end Go.Proofs.YtfbljmkjiaklfaaGreatDoor

/-
  The check's store: what its calls make of it. Conditions: there are 200 pages.
-/
namespace Go.Proofs.YtfbljmkjiaklfaaGreatDoor
open Go.RowKit
set_option maxRecDepth 100000
set_option linter.unusedVariables false

section
variable {D : World → (Nat → Prop) → Addr → DS → Prop} {w0 w w' : World} {F O : Nat → Prop} {p : Addr} {S : DS} {q r b st : Nat} {seq : Int} {L L' : List (Int × List Int)}

theorem awM_next (c : Int) : { awM c with c := (awM c).c + 1 } = awM (c + 1) := rfl
theorem awM_ne (c : Int) : awM (c + 1) ≠ awM c := fun e => by
  have h : c + 1 = c := congrArg MV.c e
  omega
theorem awM_len {c : Int} (h : c = 0 ∨ c = 1 ∨ c = 2) : (metaL (awM c)).length = 240 := by
  rcases h with rfl | rfl | rfl <;> decide +kernel
theorem awM_may {c : Int} (h : c = 0 ∨ c = 1 ∨ c = 2) : mayB (awM c) = true := by
  rcases h with rfl | rfl | rfl <;> decide +kernel
theorem awM_ints {c : Int} (h : c = 0 ∨ c = 1 ∨ c = 2) : IntsM (awM c) := by
  rcases h with rfl | rfl | rfl <;> (unfold IntsM; decide)
theorem finS_two {M M' : MV} (h : sameB M M' = false) (s : Stp) : finS M M' [s] = [s, .lay 0 (metaL M')] := by
  unfold finS
  rw [h]
  rfl

/-- Put in the check's store. -/
theorem awPut_any (api : DiskApi D) (hP : S.P = 200) (hn : pagesOf S.n = 200) {c : Int} {ps : List KV} (h : Top D w F O p S q seq r b st (awL c ps)) (hc : c = 0 ∨ c = 1) (hb : parseBk (awB ps) = (⟨0, 0, ps⟩, 0)) {ka va : Option Addr} {kn kc vn vc B B' : Nat} {x : KV} (hk : RB w B ka kn x.1) (hB : B ≤ w.heap.size) (hv : RB w B' va vn x.2) (hB' : B' ≤ w.heap.size) (hkc : kn ≤ kc ∧ kn ≤ maxLen) (hvc : vn ≤ vc ∧ vn ≤ maxLen) (hk1 : 1 ≤ kn ∧ kn ≤ 32) (hv1 : vn ≤ 120)
    (hno : findI ps x.1 < 0) (hfit : 8 + szP (ps ++ [x]) ≤ 240) (hln : ps.length ≤ 100) (hl : (awB (ps ++ [x])).length = 240) (hmay : mayBk ⟨0, 0, ps ++ [x]⟩ = true) :
    Calls Tryz.prog 19 #[.pointer (some ⟨st, 0, none⟩), .slice ka kn kc, .slice va vn vc] w fun e w' => e = .returned (.int .i64 0) ∧ TopAft D w F O p S q seq r b st (awL (c + 1) (ps ++ [x])) w' := by
  have hc1 : c + 1 = 0 ∨ c + 1 = 1 ∨ c + 1 = 2 := by omega
  obtain ⟨ok, run⟩ := awPut hP (c := c) (ps := ps) (ps' := ps ++ [x]) (awM_ne c) hl (awM_len hc1)
  have ef : finS (awM c) (awM (c + 1)) [.lay 2 (awB (ps ++ [x]))] = [.lay 2 (awB (ps ++ [x])), .lay 0 (metaL (awM (c + 1)))] := finS_two (by rcases hc with rfl | rfl <;> decide) _
  rw [← ef] at ok run
  have one : ∀ (j : Nat) (y : Leaf), [(⟨2, 0, 0, ps⟩ : Leaf)][j]? = some y → y = ⟨2, 0, 0, ps⟩ := fun j y hj => by
    have hj0 : j = 0 := by
      have := (List.getElem?_eq_some_iff.1 hj).1
      simpa using this
    subst hj0
    simpa using hj.symm
  have hz : c < 9223372036854775807 ∧ -9223372036854775808 ≤ c := by omega
  refine (store_put api h (awHead c (by omega) ps) hk hB hv hB' hkc hvc hk1 hv1 (awChain hn c hb x.1) (fun m l hm => by rw [one m l hm]; exact hno) ⟨hz.2, hz.1⟩ (m := 0) (l := ⟨2, 0, 0, ps⟩) rfl hfit (fun j y hj => by omega) (fun j y hj => by rw [one j y hj]; exact ⟨by show szP (ps ++ [x]) ≤ _; omega, by show ps.length ≤ _; omega⟩) ⟨by show (-9223372036854775808 : Int) ≤ 2; decide, by show (2 : Int) ≤ 9223372036854775807; decide⟩ ⟨by show (-9223372036854775808 : Int) ≤ 0; decide, by show (0 : Int) ≤ 9223372036854775807; decide⟩ ⟨by show (-9223372036854775808 : Int) ≤ 0; decide, by show (0 : Int) ≤ 9223372036854775807; decide⟩ hmay (awM_ints hc1) (awM_may hc1) ok).mono fun e w' z => ⟨z.1, ?_⟩
  rw [← run]
  exact z.2
/-- Delete in it. -/
theorem awDel_any (api : DiskApi D) (hP : S.P = 200) (hn : pagesOf S.n = 200) {c : Int} {ps : List KV} (h : Top D w F O p S q seq r b st (awL (c + 1) ps)) (hc : c = 0 ∨ c = 1) (hb : parseBk (awB ps) = (⟨0, 0, ps⟩, 0)) {ka : Option Addr} {kn kc B : Nat} {key : List Int} (hk : RB w B ka kn key) (hB : B ≤ w.heap.size) (hkc : kn ≤ kc ∧ kn ≤ maxLen)
    {i : Nat} (hfd : findI ps key = (i : Int)) (hi : i < ps.length) (hln : ps.length ≤ 100) (hl : (awB (ps.eraseIdx i)).length = 240) (hmay : mayBk ⟨0, 0, ps.eraseIdx i⟩ = true) :
    Calls Tryz.prog 17 #[.pointer (some ⟨st, 0, none⟩), .slice ka kn kc] w fun e w' => e = .returned (.tuple #[.bool true, .int .i64 0]) ∧ TopAft D w F O p S q seq r b st (awL c (ps.eraseIdx i)) w' := by
  have hc1 : c = 0 ∨ c = 1 ∨ c = 2 := by omega
  have s3 := step_lay (S := S) (M := awM c) (L := awL (c + 1) ps) (pg := 2) (l := awB (ps.eraseIdx i)) (by rw [hP]; decide) hl
  have s4 := step_lay (S := S) (M := awM c) (L := setL (awL (c + 1) ps) 2 (awB (ps.eraseIdx i))) (pg := 0) (l := metaL (awM c)) (by rw [hP]; decide) (awM_len hc1)
  have em : { awM (c + 1) with c := (awM (c + 1)).c - 1 } = awM c := by
    show (⟨0, 0, 3, c + 1 - 1, [1]⟩ : MV) = ⟨0, 0, 3, c, [1]⟩
    rw [Int.add_sub_cancel]
  have ef : finS (awM (c + 1)) (awM c) [.lay 2 (awB (ps.eraseIdx i))] = [.lay 2 (awB (ps.eraseIdx i)), .lay 0 (metaL (awM c))] := finS_two (by rcases hc with rfl | rfl <;> decide) _
  have ok : okS S (awM c) (awL (c + 1) ps) (finS (awM (c + 1)) (awM c) [.lay 2 (awB (ps.eraseIdx i))]) := by
    rw [ef]
    exact okS_cons (by rw [s3]) (by rw [s3]; exact okS_cons (by rw [s4]) (okS_nil _ _ _))
  have run : runS S (awM c) (awL (c + 1) ps) (finS (awM (c + 1)) (awM c) [.lay 2 (awB (ps.eraseIdx i))]) = awL c (ps.eraseIdx i) := by
    rw [ef, runS_cons, s3, runS_cons, s4, runS_nil]
    rfl
  have hz : c + 1 ≤ 9223372036854775807 ∧ -9223372036854775808 < c + 1 := by omega
  rw [← em] at ok run
  have I1 := awM_ints hc1
  have I2 := awM_may hc1
  rw [← em] at I1 I2
  refine (store_del api h (awHead (c + 1) (by omega) ps) hk hB hkc (awChain hn (c + 1) hb key) ⟨hz.2, hz.1⟩ (m := 0) (i := i) (l := ⟨2, 0, 0, ps⟩) ⟨rfl, hfd, hi, fun m' l' h' => by omega⟩ (.inl rfl) (by show ps.length ≤ _; omega) ⟨by show (-9223372036854775808 : Int) ≤ 2; decide, by show (2 : Int) ≤ 9223372036854775807; decide⟩ ⟨by show (-9223372036854775808 : Int) ≤ 0; decide, by show (0 : Int) ≤ 9223372036854775807; decide⟩ ⟨by show (-9223372036854775808 : Int) ≤ 0; decide, by show (0 : Int) ≤ 9223372036854775807; decide⟩ hmay I1 I2 ok).mono fun e w' z => ⟨z.1, ?_⟩
  rw [← run]
  exact z.2
/-- A store whose every block is new. -/
def AwT (D : World → (Nat → Prop) → Addr → DS → Prop) (w0 w : World) (F : Nat → Prop) (p : Addr) (S : DS) (q : Nat) (seq : Int) (r b st : Nat) (L : List (Int × List Int)) : Prop :=
  ∃ O, Top D w F O p S q seq r b st L ∧ Below w0.heap.size w0 w ∧ ∀ k, O k → w0.heap.size ≤ k
theorem AwT.below (api : DiskApi D) (h : AwT D w0 w F p S q seq r b st L) (hb : Below w.heap.size w w') : AwT D w0 w' F p S q seq r b st L := by
  obtain ⟨O, h1, h2, h3⟩ := h
  exact ⟨O, h1.below api hb, h2.trans (hb.mono h2.size), h3⟩
theorem AwT.aft (hb0 : Below w0.heap.size w0 w) (hO : ∀ k, O k → w0.heap.size ≤ k) (h : TopAft D w F O p S q seq r b st L w') : AwT D w0 w' F p S q seq r b st L ∧ Touch O w w' := by
  obtain ⟨O', h1, h2, h3⟩ := h
  refine ⟨⟨O', h1, hb0.trans (Touch.below (B := w0.heap.size) h2 hO hb0.size), fun k hk => ?_⟩, h2⟩
  rcases h3 k hk with a | a
  · exact hO k a
  · exact Nat.le_trans hb0.size a
end
end Go.Proofs.YtfbljmkjiaklfaaGreatDoor

/-
  The check of layer 12's laws: it returns true. Condition: the table that crc.Step reads holds what the program's text lays in it.
-/
namespace Go.Proofs.YtfbljmkjiaklfaaGreatDoor
open Go.RowKit
set_option maxRecDepth 100000
set_option linter.unusedVariables false

theorem RB.touched {w w' : World} {O : Nat → Prop} {A : Option Addr} {n : Nat} {l : List Int} (h : RB w w.heap.size A n l) (t : Touch O w w') (ho : ∀ a, A = some a → 0 < n → ¬ O a.block) : RB w' w'.heap.size A n l := ⟨h.1, h.2.1, fun hn => by
  obtain ⟨b, off, e, hb, hc⟩ := h.2.2 hn
  exact ⟨b, off, e, Nat.lt_of_lt_of_le hb t.size, fun j hj => (World.cell?_of_block (a := ⟨b, off + j, none⟩) (t.block b hb (ho _ e hn))).trans (hc j hj)⟩⟩
/-- A literal of one byte, as the program makes it. -/
def litX (x : Int) : Obj := .cells #[.int .u8 x] 5 (1, 2)
theorem litX_any (w : World) (x : Int) (hx : 0 ≤ x ∧ x < 256) : RB (w.alloc (litX x)) (w.heap.size + 1) (some ⟨w.heap.size, 0, none⟩) 1 [x] := RB.mark w 5 [x] #[.int .u8 x] (1, 2) rfl (fun y hy => by obtain rfl := List.mem_singleton.1 hy; exact hx)
theorem litX_below (w : World) (x : Int) : Below w.heap.size w (w.alloc (litX x)) := (Below.refl _ _).alloc (Nat.le_refl _) _

section
variable {D : World → (Nat → Prop) → Addr → DS → Prop} {w0 w w' : World} {F : Nat → Prop} {p : Addr} {S : DS} {q r b st : Nat} {seq : Int}
set_option maxHeartbeats 800000 in
theorem awOne (api : DiskApi D) (hP : S.P = 200) (hn : pagesOf S.n = 200) (h : AwT D w0 w F p S q seq r b st (awL 0 [])) {ka va : Option Addr} {B B' : Nat} (hk : RB w B ka 1 [97]) (hB : B ≤ w.heap.size) (hv : RB w B' va 1 [120]) (hB' : B' ≤ w.heap.size) :
    Calls Tryz.prog 19 #[.pointer (some ⟨st, 0, none⟩), .slice ka 1 1, .slice va 1 1] w fun e w' => e = .returned (.int .i64 0) ∧ AwT D w0 w' F p S q seq r b st (awL 1 [kA]) := by
  obtain ⟨O, t1, t2, t3⟩ := h
  have h1 : (0 : Int) + 1 = 1 := rfl
  have h2 : ([] : List KV) ++ [kA] = [kA] := rfl
  have H := awPut_any (c := 0) (ps := []) (x := kA) (kc := 1) (vc := 1) api hP hn t1 (.inl rfl) parse0 hk hB hv hB' (by decide) (by decide) (by decide) (by decide) (by decide) (by decide) (by decide) (by decide +kernel) (by decide)
  rw [h1, h2] at H
  exact H.mono fun e w' z => ⟨z.1, (AwT.aft t2 t3 z.2).1⟩
set_option maxHeartbeats 800000 in
theorem awTwo (api : DiskApi D) (hP : S.P = 200) (hn : pagesOf S.n = 200) (h : AwT D w0 w F p S q seq r b st (awL 1 [kA])) {ka : Option Addr} {B : Nat} (hk : RB w B ka 1 [98]) (hB : B ≤ w.heap.size) :
    Calls Tryz.prog 19 #[.pointer (some ⟨st, 0, none⟩), .slice ka 1 1, .slice none 0 0] w fun e w' => e = .returned (.int .i64 0) ∧ AwT D w0 w' F p S q seq r b st (awL 2 [kA, kB]) := by
  obtain ⟨O, t1, t2, t3⟩ := h
  have h1 : (1 : Int) + 1 = 2 := rfl
  have h2 : [kA] ++ [kB] = [kA, kB] := rfl
  have H := awPut_any (c := 1) (ps := [kA]) (x := kB) (kc := 1) (vc := 0) api hP hn t1 (.inr rfl) parse1 hk hB (RB.nil_ (w := w) (B := 0) (A := none)) (Nat.zero_le _) (by decide) (by decide) (by decide) (by decide) (by decide) (by decide) (by decide) (by decide +kernel) (by decide)
  rw [h1, h2] at H
  exact H.mono fun e w' z => ⟨z.1, (AwT.aft t2 t3 z.2).1⟩
set_option maxHeartbeats 800000 in
theorem awGone (api : DiskApi D) (hP : S.P = 200) (hn : pagesOf S.n = 200) {O : Nat → Prop} (t1 : Top D w F O p S q seq r b st (awL 2 [kA, kB])) (t2 : Below w0.heap.size w0 w) (t3 : ∀ k, O k → w0.heap.size ≤ k) {ka A : Option Addr} {B : Nat} (hk : RB w B ka 1 [98]) (hB : B ≤ w.heap.size) (hr : RB w w.heap.size A 1 [120]) (ho : ∀ a, A = some a → 0 < 1 → ¬ O a.block) :
    Calls Tryz.prog 17 #[.pointer (some ⟨st, 0, none⟩), .slice ka 1 1] w fun e w' => e = .returned (.tuple #[.bool true, .int .i64 0]) ∧ AwT D w0 w' F p S q seq r b st (awL 1 [kA]) ∧ RB w' w'.heap.size A 1 [120] := by
  have h1 : (1 : Int) + 1 = 2 := rfl
  have h2 : [kA, kB].eraseIdx 1 = [kA] := rfl
  rw [← h1] at t1
  have H := awDel_any (c := 1) (ps := [kA, kB]) (i := 1) (kc := 1) api hP hn t1 (.inr rfl) parse2 hk hB (by decide) (by decide) (by decide) (by decide) (by decide +kernel) (by decide)
  rw [h2] at H
  exact H.mono fun e w' z => ⟨z.1, (AwT.aft t2 t3 z.2).1, RB.touched hr (AwT.aft t2 t3 z.2).2 ho⟩
set_option maxHeartbeats 800000 in
theorem awGot (api : DiskApi D) (hn : pagesOf S.n = 200) {O : Nat → Prop} (t1 : Top D w F O p S q seq r b st (awL 2 [kA, kB])) {ka : Option Addr} {B : Nat} (hk : RB w B ka 1 [97]) (hB : B ≤ w.heap.size) :
    Calls Tryz.prog 16 #[.pointer (some ⟨st, 0, none⟩), .slice ka 1 1] w fun e w' => ∃ A c, e = .returned (.tuple #[.slice A 1 c, .bool true, .int .i64 0]) ∧ RB w' w'.heap.size A 1 [120] ∧ (∀ a, A = some a → 0 < 1 → w.heap.size ≤ a.block) ∧ Below w.heap.size w w' := by
  have hC := awChain hn 2 parse2 [97]
  refine (extGet_any (Kc := 1) api t1.at_ (awHead 2 (.inr (.inr rfl)) [kA, kB]) 2 hk hB (by decide) hC.dir hC.ok hC.few hC.all).mono fun e w' hgot => ?_
  rcases hgot with ⟨hno, _, _⟩ | ⟨m, i, l, x, A, n, c, hl, hx, hf, rfl, _, _, hr, hnew, hb5⟩
  · exact absurd (hno 0 _ rfl) (by decide)
  · have hm0 : m = 0 := by
      have := (List.getElem?_eq_some_iff.1 hl).1
      simpa using this
    subst hm0
    obtain rfl : (⟨2, 0, 0, [kA, kB]⟩ : Leaf) = l := by simpa using hl
    have hi0 : i = 0 := by
      have e0 : findI [kA, kB] [97] = 0 := by decide
      have hf : findI [kA, kB] [97] = (i : Int) := hf
      omega
    subst hi0
    obtain rfl : kA = x := by simpa using hx
    obtain rfl : n = 1 := hr.len.symm
    exact ⟨A, c, rfl, hr, hnew, hb5⟩
set_option maxHeartbeats 800000 in
theorem awMade (api : DiskApi D) (hP : S.P = 200) (hn : pagesOf S.n = 200) (hlen : LenS S) {O : Nat → Prop} (hpg : PgAt D w F O p S q seq r b []) (htab : TabF w F) (hout : ¬ O 1) (hb1 : Below w0.heap.size w0 w) (hO : ∀ k, O k → w0.heap.size ≤ k) :
    Calls Tryz.prog 27 #[.pointer (some ⟨r, 0, none⟩)] w fun e w' => ∃ st, e = .returned (.tuple #[.pointer (some ⟨st, 0, none⟩), .int .i64 0]) ∧ AwT D w0 w' F p S q seq r b st (awL 0 []) := by
  have ok := (awFormat hP).1
  rw [← awFin] at ok
  refine (extFormat_any api hpg htab hlen hout (awLen hn) (by decide) (by decide) (by decide) (awTake hn) (by decide) (by decide) (awM_ints (.inl rfl)) (awM_may (.inl rfl)) ok).mono fun e w' z => ?_
  obtain ⟨st, e1, _, z2⟩ := z
  rw [awFin, (awFormat hP).2] at z2
  exact ⟨st, e1, (AwT.aft hb1 hO z2).1⟩
end
end Go.Proofs.YtfbljmkjiaklfaaGreatDoor
