/-
  Contract of bucket.Parse. Condition: a slice of bytes.
-/
import Derived.Test.YthpgcdfbngngjaaBkI
import Derived.Test.YthpgcdfbngngjaaSClone
namespace Go.Proofs.Ythpgcdfbngngjaa
open Go.RowKit
set_option maxRecDepth 100000
set_option linter.unusedVariables false

theorem cutsL_size (l : List Int) (c : Nat) : ∀ a, a ≤ 240 → a + szP (cutsL l c a) ≤ 240 := by
  induction c with
  | zero => intro a ha; simpa [cutsL, szP] using ha
  | succ c ih =>
    intro a ha
    by_cases h : 240 < cutE l a
    · rw [cutsL_stop h]; simpa [szP] using ha
    · rw [cutsL_go h, szP_cons]
      have := ih (cutE l a) (by omega)
      have h1 : (cutK l a).length ≤ kN l a := by unfold cutK; rw [List.length_take]; omega
      have h2 : (cutV l a).length ≤ vN l a := by unfold cutV; rw [List.length_take]; omega
      have h3 : cutE l a = a + 2 + kN l a + vN l a := rfl
      show a + (2 + (cutK l a).length + (cutV l a).length + szP (cutsL l c (cutE l a))) ≤ 240
      omega
theorem readBk_few (l : List Int) : 8 + szP (readBk l).ps ≤ 240 ∧ (readBk l).ps.length ≤ 116 := by
  have h := cutsL_size l (cntBk l) 8 (by decide)
  have h2 := szP_len (readBk l).ps
  have e : (readBk l).ps = cutsL l (cntBk l) 8 := rfl
  rw [← e] at h
  exact ⟨h, by omega⟩
theorem readBk_int {l : List Int} (hb : AllBytes l) : (-9223372036854775808 ≤ (readBk l).d ∧ (readBk l).d ≤ 9223372036854775807) ∧ (-9223372036854775808 ≤ (readBk l).x ∧ (readBk l).x ≤ 9223372036854775807) := ⟨getR_int hb 1 1, getR_int hb 2 4⟩

/-- Parse's answer, made of parts. -/
theorem parseBk_yes {l : List Int} (h : l.length = 240) (hm : mayBk (readBk l) = true) (hp : pageBk (readBk l) = l) : parseBk l = (readBk l, 0) := by unfold parseBk; rw [if_pos ⟨h, hm, hp⟩]
theorem parseBk_no {l : List Int} (h : ¬ (l.length = 240 ∧ mayBk (readBk l) = true ∧ pageBk (readBk l) = l)) : parseBk l = (⟨0, 0, []⟩, 4) := by unfold parseBk; rw [if_neg h]

/-- clone, its bytes in new memory. -/
theorem bkClone_any {w : World} {B n : Nat} {A : Option Addr} {l : List Int} (c : Nat) (h : RB w B A n l) (hB : B ≤ w.heap.size) (hn : n ≤ 140737488355328) :
    Calls Try.prog 40 #[.slice A n c] w fun e w' => ∃ A' c', e = .returned (.slice A' n c') ∧ n ≤ c' ∧ RB w' w'.heap.size A' n l ∧ Below w.heap.size w w' ∧ ∀ x, A' = some x → w.heap.size ≤ x.block := by
  have q22 : ∀ (w : World) (a : Option Addr) (n c n' c' : Nat), (binOp .eql 22 (.slice a n c) (.slice none n' c')).run Try.prog w = .ok (.bool a.isNone) w := fun w a n c n' c' => Lib.run_eql_slice_nil w _ _ a n c n' c' Try.underlying22
  rcases A with _ | ad
  · have hm : n = 0 := by
      rcases Nat.eq_zero_or_pos n with h0 | h0
      · exact h0
      · obtain ⟨b, off, e, _⟩ := h.at_ h0; cases e
    subst hm
    obtain rfl : l = [] := List.eq_nil_of_length_eq_zero h.len
    go_enter Try.func40, Try.ntmps40
    go_wp2
    go_ret
    exact ⟨none, 0, rfl, Nat.le_refl _, RB.nil_, Below.refl _ _, fun x hx => by cases hx⟩
  · go_enter Try.func40, Try.ntmps40
    go_wp2_with (at_builtin; refine wpList_append_bytes rfl _ _ rfl w.heap.size _ 0 [] rfl (World.ownsRow_made w #[] 0 (Nat.le_refl _) (Nat.zero_le _) rfl) B (some ad) n c l rfl (h.alloc hB _) (by omega) (by simp) ?_; intro v1 w1 hown1 _ hb1)
    simp only [Nat.zero_add, List.nil_append] at hown1
    have hge := own_ge hown1
    obtain ⟨A', c', rfl, hc'⟩ := own_shape hown1
    go_ret
    refine ⟨A', c', rfl, hc', RB.of_own hown1 h.bytes, ((Below.refl w.heap.size w).alloc (Nat.le_refl _) _).trans hb1, fun x hx => ?_⟩
    subst hx
    exact hge x.block (by simp [Value.ownBlock])

/-- A bucket over the result's box. -/
theorem bkStore_last {w0 W : World} {n c : Nat} {d x : Int} {A : Option Addr} {ps : List KV} (hr : Stays W (fun k => k = w0.heap.size) A n ps) (hc : n ≤ c) (h0 : BkBox W w0.heap.size 0 0 none 0 0) (hb : Below w0.heap.size w0 W) :
    BkBox (((W.setCell ⟨w0.heap.size, 0, none⟩ (.int .i64 d)).setCell ⟨w0.heap.size, 1, none⟩ (.int .i64 x)).setCell ⟨w0.heap.size, 2, none⟩ (.slice A n c)) w0.heap.size d x A n c ∧ n ≤ c ∧ RPairs (((W.setCell ⟨w0.heap.size, 0, none⟩ (.int .i64 d)).setCell ⟨w0.heap.size, 1, none⟩ (.int .i64 x)).setCell ⟨w0.heap.size, 2, none⟩ (.slice A n c)) (((W.setCell ⟨w0.heap.size, 0, none⟩ (.int .i64 d)).setCell ⟨w0.heap.size, 1, none⟩ (.int .i64 x)).setCell ⟨w0.heap.size, 2, none⟩ (.slice A n c)).heap.size A n ps ∧ Below w0.heap.size w0 (((W.setCell ⟨w0.heap.size, 0, none⟩ (.int .i64 d)).setCell ⟨w0.heap.size, 1, none⟩ (.int .i64 x)).setCell ⟨w0.heap.size, 2, none⟩ (.slice A n c)) := by
  have hq := ((hr.setCell (p := ⟨w0.heap.size, 0, none⟩) rfl (.int .i64 d)).setCell (p := ⟨w0.heap.size, 1, none⟩) rfl (.int .i64 x)).setCell (p := ⟨w0.heap.size, 2, none⟩) rfl (.slice A n c)
  exact ⟨h0.store, hc, hq.now, ((hb.setCell (p := ⟨w0.heap.size, 0, none⟩) (Nat.le_refl _) _).setCell (p := ⟨w0.heap.size, 1, none⟩) (Nat.le_refl _) _).setCell (p := ⟨w0.heap.size, 2, none⟩) (Nat.le_refl _) _⟩
theorem Stays.none_ (w : World) (G : Nat → Prop) : Stays w G none 0 [] := fun W _ _ => RPairs.nil_

set_option maxHeartbeats 6400000 in
theorem bkParse_any {w : World} {B n c : Nat} {A : Option Addr} {l : List Int} (hr : RB w B A n l) (hB : B ≤ w.heap.size) (hc : n ≤ c) (hm : n ≤ maxLen) :
    Calls Try.prog 25 #[.slice A n c] w fun e w' => ∃ A' n' c', e = .returned (.tuple #[.agg #[.int .i64 (parseBk l).1.d, .int .i64 (parseBk l).1.x, .slice A' n' c'], .int .i64 (parseBk l).2]) ∧ n' ≤ c' ∧ RPairs w' w'.heap.size A' n' (parseBk l).1.ps ∧ Below w.heap.size w w' := by
  unfold maxLen at hm
  have hX : Below w.heap.size w (w.alloc (BkObj 0 0 none 0 0)) := (Below.refl _ _).alloc (Nat.le_refl _) _
  have hbx := BkBox.new w 0 0 none 0 0
  by_cases h240 : n = 240
  · have HC := Lib.hid (bkClone_any c (hr.below (hX.mono hB)) (Nat.le_trans hB hX.size) (by omega))
    have HBX := Lib.hid hbx
    have HX := Lib.hid hX
    have HR := Lib.hid hr
    have HLEN := Lib.hid (show l.length = 240 by rw [hr.len]; exact h240)
    have hfew := readBk_few l
    have hint := readBk_int hr.bytes
    have hs1 : w.heap.size < (w.alloc (BkObj 0 0 none 0 0)).heap.size := by simp
    clear hX hbx hr
    subst h240
    unfold BkObj at *
    go_enter Try.func25, Try.ntmps25
    go_wp2_with fail
    refine HC.out.mono ?_
    rintro e w1 ⟨A1, c1, rfl, hc1, hr1, hb1, hnew⟩
    have HB1 := Lib.hid (And.intro (HX.out.trans (hb1.mono HX.out.size)) (HBX.out.below hb1))
    have HRD := Lib.hid (bkRead_any hr1 (Nat.le_refl _) rfl hc1 (fun k => k = w.heap.size) (fun k hk => by rw [hk]; exact HB1.out.2.cells.2.2.2) (fun x hx e => by have := hnew x hx; have e' : x.block = w.heap.size := e; omega))
    clear hr1 hb1 hnew HC HX HBX
    go_wp2_with fail
    refine HRD.out.mono ?_
    rintro e w2 ⟨A2, n2, c2, rfl, hc2, hst2, hb2⟩
    have hXX : Below w2.heap.size w2 (w2.alloc (BkObj (readBk l).d (readBk l).x A2 n2 c2)) := (Below.refl _ _).alloc (Nat.le_refl _) _
    have hb2X := hb2.trans (hXX.mono hb2.size)
    have HB2 := Lib.hid (And.intro (HB1.out.1.trans (hb2X.mono HB1.out.1.size)) (And.intro (HB1.out.2.below hb2X) (And.intro (BkBox.new w2 (readBk l).d (readBk l).x A2 n2 c2) (hst2.below hXX))))
    have hn2 : n2 ≤ 116 := by rw [← hst2.now.len]; exact hfew.2
    have HP := Lib.hid (bkPut_any (readBk l).d (readBk l).x c2 HB2.out.2.2.2.now (Nat.le_refl _) (by unfold maxLen; omega) (by omega) hint.1 hint.2)
    obtain ⟨u0, u1, u2, _⟩ := HB2.out.2.2.1.cells
    have HPY := Lib.hid (fun (hm : mayBk (readBk l) = true) (hp : pageBk (readBk l) = l) => parseBk_yes HLEN.out hm hp)
    have HPN := Lib.hid (fun (h : ¬ (mayBk (readBk l) = true ∧ pageBk (readBk l) = l)) => parseBk_no (l := l) (fun h' => h h'.2))
    have hput : putBk ⟨(readBk l).d, (readBk l).x, (readBk l).ps⟩ = if mayBk (readBk l) = true then (pageBk (readBk l), 0) else ([], 1) := rfl
    rw [hput] at HP
    clear hput hfew hint hst2 hb2 hXX hb2X HRD HB1
    generalize readBk l = R at *
    obtain ⟨D, X0, PS⟩ := R
    unfold BkObj at *
    go_wp2_with fail
    refine HP.out.mono ?_
    by_cases hmay : mayBk ⟨D, X0, PS⟩ = true
    · rw [if_pos hmay]
      rintro e w3 ⟨A3, n3, c3, rfl, hc3, hr3, hb3⟩
      have hr3 : RB w3 w3.heap.size A3 n3 (pageBk ⟨D, X0, PS⟩) := hr3
      obtain ⟨k1, k2, k3, k4⟩ := HB2.out
      have hb03 := k1.trans (hb3.mono k1.size)
      have hbx0 := k2.below hb3
      have hbx4 := k3.below hb3
      have hst3 := k4.below hb3
      have HE := Lib.hid (Equal_any c3 c hr3 (HR.out.below (hb03.mono hB)))
      have f0 := hbx0.frozen 0
      have f1 := hbx0.frozen 1
      have f2 := hbx0.frozen 2
      obtain ⟨z0, z1, z2, _⟩ := hbx0.cells
      clear u0 u1 u2
      obtain ⟨u0, u1, u2, _⟩ := hbx4.cells
      by_cases hpd : pageBk ⟨D, X0, PS⟩ = l
      · have HPS := Lib.hid (HPY.out hmay hpd)
        rw [decide_eq_true hpd] at HE
        have HEND := Lib.hid (bkStore_last (d := D) (x := X0) hst3 hc2 hbx0 hb03)
        clear hr3 hb3 k1 k2 k3 k4 hb03 hbx0 hbx4 hst3 HP hpd hmay HPY HPN HB2
        go_wp2_with fail
        refine HE.out.mono ?_
        rintro e w4 ⟨rfl, rfl⟩
        go_wp2
        generalize hXX : (((w3.setCell ⟨w.heap.size, 0, none⟩ (Value.int IntKind.i64 D)).setCell ⟨w.heap.size, 1, none⟩ (Value.int IntKind.i64 X0)).setCell ⟨w.heap.size, 2, none⟩ (Value.slice A2 n2 c2)) = X at *
        obtain ⟨d0, d1, d2, _⟩ := HEND.out.1.cells
        refine bodyPost_ret (v := .tuple #[.agg #[.int .i64 D, .int .i64 X0, .slice A2 n2 c2], .int .i64 0]) (by
          simp [results, Try.results25, go_sem, d0, d1, d2]) rfl ?_
        rw [HPS.out]
        exact ⟨_, _, _, rfl, HEND.out.2.1, HEND.out.2.2.1, HEND.out.2.2.2⟩
      · have HPS := Lib.hid (HPN.out (fun h => hpd h.2))
        rw [decide_eq_false hpd] at HE
        have HEND := Lib.hid (bkStore_last (d := 0) (x := 0) (Stays.none_ w3 (fun k => k = w.heap.size)) (Nat.le_refl 0) hbx0 hb03)
        clear hr3 hb3 k1 k2 k3 k4 hb03 hbx0 hbx4 hst3 HP hpd hmay HPY HPN HB2
        go_wp2_with fail
        refine HE.out.mono ?_
        rintro e w4 ⟨rfl, rfl⟩
        go_wp2
        generalize hXX : (((w3.setCell ⟨w.heap.size, 0, none⟩ (Value.int IntKind.i64 0)).setCell ⟨w.heap.size, 1, none⟩ (Value.int IntKind.i64 0)).setCell ⟨w.heap.size, 2, none⟩ (Value.slice none 0 0)) = X at *
        obtain ⟨d0, d1, d2, _⟩ := HEND.out.1.cells
        refine bodyPost_ret (v := .tuple #[.agg #[.int .i64 0, .int .i64 0, .slice none 0 0], .int .i64 4]) (by
          simp [results, Try.results25, go_sem, d0, d1, d2]) rfl ?_
        rw [HPS.out]
        exact ⟨_, _, _, rfl, HEND.out.2.1, HEND.out.2.2.1, HEND.out.2.2.2⟩
    · rw [if_neg hmay]
      rintro e w3 ⟨A3, n3, c3, rfl, hc3, hr3, hb3⟩
      obtain ⟨k1, k2, k3, k4⟩ := HB2.out
      have hb03 := k1.trans (hb3.mono k1.size)
      have hbx0 := k2.below hb3
      have f0 := hbx0.frozen 0
      have f1 := hbx0.frozen 1
      have f2 := hbx0.frozen 2
      obtain ⟨z0, z1, z2, _⟩ := hbx0.cells
      have HPS := Lib.hid (HPN.out (fun h => hmay h.1))
      have HEND := Lib.hid (bkStore_last (d := 0) (x := 0) (Stays.none_ w3 (fun k => k = w.heap.size)) (Nat.le_refl 0) hbx0 hb03)
      clear u0 u1 u2 hr3 hb3 k1 k2 k3 k4 hb03 hbx0 HP hmay HPY HPN HB2
      go_wp2
      generalize hXX : (((w3.setCell ⟨w.heap.size, 0, none⟩ (Value.int IntKind.i64 0)).setCell ⟨w.heap.size, 1, none⟩ (Value.int IntKind.i64 0)).setCell ⟨w.heap.size, 2, none⟩ (Value.slice none 0 0)) = X at *
      obtain ⟨d0, d1, d2, _⟩ := HEND.out.1.cells
      refine bodyPost_ret (v := .tuple #[.agg #[.int .i64 0, .int .i64 0, .slice none 0 0], .int .i64 4]) (by
        simp [results, Try.results25, go_sem, d0, d1, d2]) rfl ?_
      rw [HPS.out]
      exact ⟨_, _, _, rfl, HEND.out.2.1, HEND.out.2.2.1, HEND.out.2.2.2⟩
  · have HPS := Lib.hid (parseBk_no (l := l) (fun h => h240 (by rw [← hr.len]; exact h.1)))
    have k1 : ((n : Int) != 240) = true := by simp; omega
    have HX := Lib.hid hX
    obtain ⟨z0, z1, z2, _⟩ := hbx.cells
    clear h240 hX hr hbx
    unfold BkObj at *
    go_enter Try.func25, Try.ntmps25
    go_wp2
    refine bodyPost_ret (v := .tuple #[.agg #[.int .i64 0, .int .i64 0, .slice none 0 0], .int .i64 4]) (by
      simp [results, Try.results25, go_sem, z0, z1, z2]) rfl ?_
    rw [HPS.out]
    exact ⟨none, 0, 0, rfl, Nat.le_refl _, RPairs.nil_, HX.out⟩
end Go.Proofs.Ythpgcdfbngngjaa
