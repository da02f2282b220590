/-
  The check of the law of docs: it returns true. DocsBack: it returns true. No condition beyond those that the statement itself says.
-/
import Derived.Test.YtlpjggilkfpleaaGreatDocF
import Derived.Test.YtlpjggilkfpleaaGreatDocQ
import Derived.Test.YtlpjggilkfpleaaGreatVBy
import Derived.Test.YtlpjggilkfpleaaGreatViewN
import Derived.Test.YtlpjggilkfpleaaGreatEqInts
namespace Go.Proofs.YtlpjggilkfpleaaGreat
open Go.RowKit Go.Maps
set_option maxRecDepth 100000
set_option linter.unusedVariables false

theorem many_next {S : VS} {n : Nat} (h : ManyS S n) (k : Int) : ManyS (S.next k) (n + 1) := by
  unfold VS.next
  split
  · exact h.more (Nat.le_succ _)
  · exact h.put (by rw [tx_length, keyOne_len]; omega) _
theorem many_lines (i : Int) : ∀ (l : List Dl) {S : VS} {n : Nat} (j : Nat), ManyS S n → ManyS (putLs S i j l) (n + l.length)
  | [], S, n, j, h => h
  | x :: r, S, n, j, h => by
    have := many_lines i r (j + 1) (h.put (x := lKy i j) (by rw [tx_length, lKyLen]; omega) (dlVal x))
    rw [List.length_cons, show n + (r.length + 1) = n + 1 + r.length by omega]
    exact this
theorem many_putDoc {S : VS} {n : Nat} (h : ManyS S n) (d : Dc) (l : List Dl) : ManyS (putDoc S d l).2 (n + 8) := by
  unfold putDoc
  split
  · exact h.more (by omega)
  · rename_i hl
    split
    · exact ((many_lines _ l 0 (many_next h 2)).put (by rw [tx_length, dKyLen]; omega) _).more (by omega)
    · exact h.more (by omega)
theorem many_setLine {S : VS} {n : Nat} (h : ManyS S n) (i j : Int) (x : Dl) : ManyS (setLine S i j x).2 (n + 1) := by
  unfold setLine
  split
  · exact h.more (Nat.le_succ _)
  · split
    · exact h.put (by rw [tx_length, lKyLen]; omega) _
    · exact h.more (Nat.le_succ _)
theorem docsAll_any {w : World} {X : Nat → Prop} {v m c : Nat} {S : VS} (h : ViewAt w X v m c S) {n : Nat} (hS : ManyS S n) (hn : n ≤ 32767) (y k : Int) :
    Calls Tryz.prog 33 #[.pointer (some ⟨v, 0, none⟩), .int .i64 y, .int .i64 k] w fun e w' => ∃ u, e = .returned u ∧ IntsR w w' u (allDocs S y k) :=
  docsAll_of (fun W A k hb hr => vScan_any (h.below hb) (hS.scanOk hn).wf (hS.scanOk hn).wk (hS.scanOk hn).cf (hS.scanOk hn).ck hr (Nat.le_refl _)) (Nat.le_trans (hS.scan _) (by omega)) (h.scanBytes _)
theorem IntsR.read {w w' : World} {u : Value} {l : List Int} (h : IntsR w w' u l) : ∃ A k, u = .slice A l.length k ∧ l.length ≤ k ∧ RI w' w'.heap.size A l.length l := by
  obtain ⟨A, k, rfl, hk⟩ := int_own_shape h.1
  exact ⟨A, k, rfl, hk, (RI.of_own h.1 h.2.1).1⟩
abbrev dAw : Dc := ⟨0, 1, 2020, 0, 0⟩
abbrev lAw : List Dl := [⟨3, 5, 0, 0⟩]
theorem dAw_ok : DcOk ⟨0, 1, 2020, 0, 0⟩ := by intro v hv; simp only [List.mem_cons, List.not_mem_nil, or_false] at hv; rcases hv with rfl | rfl | rfl | rfl | rfl <;> omega
theorem lAw_ok : ∀ x ∈ lAw, DlOk x := by
  intro x hx
  obtain rfl := List.mem_singleton.1 hx
  intro v hv
  simp only [List.mem_cons, List.not_mem_nil, or_false] at hv
  rcases hv with rfl | rfl | rfl | rfl <;> omega
theorem lAw_open : openL ⟨3, 5, 0, 0⟩ = 5 := by decide +kernel
theorem lAw_right : rightL ⟨3, 5, 0, 0⟩ = true := by decide +kernel
set_option maxHeartbeats 12800000 in
theorem docAwake_any (w : World) : Calls Tryz.prog 17 #[] w fun e w' => e = .returned (.bool true) ∧ Below w.heap.size w w' := by
  have HN := Lib.hid (vNew_any w (fun _ => False) (fun k h => h.elim))
  go_enter Tryz.func17, Tryz.ntmps17
  go_wp2_with fail
  refine HN.out.mono ?_
  rintro e w1 ⟨v, m, c, rfl, h1, hb1, hv, hm, hc⟩
  obtain ⟨X, hX⟩ : ∃ X : Nat → Prop, X = fun k => False ∨ k = v ∨ k = m ∨ k = c := ⟨_, rfl⟩
  rw [← hX] at h1
  obtain ⟨w2, hw2⟩ : ∃ w2, w2 = w1.alloc (.cells #[.int .i64 3, .int .i64 5, .int .i64 0, .int .i64 0] 53) := ⟨_, rfl⟩
  have hb2 : Below w1.heap.size w1 w2 := by rw [hw2]; exact (Below.refl _ _).alloc (Nat.le_refl _) _
  have hrow : DlE.R w2 w2.heap.size (some ⟨w1.heap.size, 0, none⟩) 1 lAw := by
    rw [hw2]
    exact Enc.R.one (E := DlE) (x := ⟨3, 5, 0, 0⟩) (heap_alloc_new w1 _) (lAw_ok _ List.mem_cons_self)
  obtain ⟨p1, p2⟩ := put_got dAw_ok lAw_ok (by decide) (by decide)
  have p3 := put_all dAw_ok lAw (by decide) 2020 1
  have HP := docsPut_any (h1.below hb2) ⟨0, 1, 2020, 0, 0⟩ dAw_ok hrow (Nat.le_refl 1) (by decide) (by decide)
  have hmany := many_putDoc ManyS.start ⟨0, 1, 2020, 0, 0⟩ lAw
  rw [p1] at HP hmany
  simp only at HP hmany
  rw [if_pos ⟨rfl, rfl⟩] at p3
  generalize (putLs ((⟨[], []⟩ : VS).next 2) 1 0 lAw).putD ⟨1, 1, 2020, 0, lAw.length⟩ = S1 at HP hmany p2 p3
  have HP := Lib.hid HP
  have HS := Lib.hid (And.intro p2 (And.intro p3 hmany))
  have HB := Lib.hid (hb1.trans (hb2.mono hb1.size))
  have HC := Lib.hid hc
  clear HN h1 hb1 hv hm hc hX hb2 hrow p1 p2 p3 hmany
  go_wp2_with fail
  rw [← hw2]
  clear hw2
  refine HP.out.mono ?_
  rintro e w3 ⟨rfl, h3, t3⟩
  have HG := docsGet_any h3 1 (by omega)
  rw [HS.out.1] at HG
  have HG := Lib.hid HG
  have HV3 := Lib.hid h3
  have HB3 := Lib.hid (HB.out.trans (t3.below (fun k hk => by rw [hk]; exact HC.out) HB.out.size))
  clear h3 t3 HP HB
  go_wp2_with fail
  refine HG.out.mono ?_
  rintro e w4 ⟨A, k, rfl, hown, hok, _, hb4⟩
  obtain ⟨_, hk4, hr4⟩ := hown.read hok
  have hl1 : (dlsO (some ((⟨1, 1, 2020, 0, lAw.length⟩ : Dc), lAw))).length = 1 := rfl
  rw [hl1] at hr4 hk4 ⊢
  obtain ⟨b, off, rfl, hb, c0, c1, c2, c3⟩ := dl_at (j := 0) (x := ⟨3, 5, 0, 0⟩) hr4 rfl
  simp only [Nat.zero_mul, Nat.add_zero] at c0 c1 c2 c3
  have HCC := Lib.hid (show ∀ W, Below w4.heap.size w4 W → W.cell? ⟨b, off, none⟩ = some (.int .i64 3) ∧ W.cell? ⟨b, off + 1, none⟩ = some (.int .i64 5) ∧ W.cell? ⟨b, off + 2, none⟩ = some (.int .i64 0) ∧ W.cell? ⟨b, off + 3, none⟩ = some (.int .i64 0) from fun W hW =>
    ⟨(hW.cell (p := ⟨b, off, none⟩) hb).trans c0, (hW.cell (p := ⟨b, off + 1, none⟩) hb).trans c1, (hW.cell (p := ⟨b, off + 2, none⟩) hb).trans c2, (hW.cell (p := ⟨b, off + 3, none⟩) hb).trans c3⟩)
  have HO := Lib.hid (fun W => open_any ⟨3, 5, 0, 0⟩ W)
  have HRT := Lib.hid (fun W => docsRight_any ⟨3, 5, 0, 0⟩ W)
  rw [lAw_open] at HO
  rw [lAw_right] at HRT
  have HV4 := Lib.hid (show ∀ W, Below w4.heap.size w4 W → ViewAt W X v m c S1 ∧ Below w.heap.size w W from fun W hW => ⟨HV3.out.below (hb4.trans (hW.mono hb4.size)), HB3.out.trans ((hb4.trans (hW.mono hb4.size)).mono HB3.out.size)⟩)
  have hbx : Below w4.heap.size w4 (w4.alloc (.cells #[.int .i64 1, .int .i64 1, .int .i64 2020, .int .i64 0, .int .i64 1] 50 (0, 0))) := (Below.refl _ _).alloc (Nat.le_refl _) _
  obtain ⟨d0, d1, d2, d3⟩ := HCC.out _ hbx
  have HBX := Lib.hid hbx
  simp only [dcW, Option.map_some, Option.getD_some, Option.isSome_some, show ((lAw.length : Nat) : Int) = 1 from rfl]
  simp only at HO HRT
  have hk1 : 1 ≤ k := hk4
  clear hown hok hb4 hr4 hl1 c0 c1 c2 c3 hbx HG HV3 HB3 hk4 hb
  go_wp2_with fail
  refine (HO.out _).mono ?_
  rintro e w5 ⟨rfl, hb5⟩
  have HB5 := Lib.hid (HBX.out.trans (hb5.mono HBX.out.size))
  clear hb5 d0 d1 d2 d3 HO
  obtain ⟨d0, d1, d2, d3⟩ := HCC.out _ HB5.out
  go_wp2_with fail
  refine (HRT.out _).mono ?_
  rintro e w6 ⟨rfl, hb6⟩
  have HB6 := Lib.hid (HB5.out.trans (hb6.mono HB5.out.size))
  have HAL := docsAll_any (HV4.out w6 HB6.out).1 HS.out.2.2 (by omega) 2020 1
  rw [HS.out.2.1] at HAL
  have HAL := Lib.hid HAL
  clear hb6 d0 d1 d2 d3 HRT HB5
  go_wp2_with fail
  refine HAL.out.mono ?_
  rintro e w7 ⟨u, rfl, h7⟩
  obtain ⟨A7, k7, rfl, hk7, hr7⟩ := h7.read
  have hb7 := h7.2.2
  have hl7 : ([1] : List Int).length = 1 := rfl
  rw [hl7] at hr7 hk7 ⊢
  have hbe : Below w7.heap.size w7 (w7.alloc (.cells #[.int .i64 1] 3)) := (Below.refl _ _).alloc (Nat.le_refl _) _
  have hri : RI (w7.alloc (.cells #[.int .i64 1] 3)) (w7.heap.size + 1) (some ⟨w7.heap.size, 0, none⟩) 1 [1] := one_lit w7 3 [1] _ rfl (fun x hx => by obtain rfl := List.mem_singleton.1 hx; omega)
  have HEQ := EqualInts_any (B := w7.heap.size) (B' := w7.heap.size + 1) k7 1 (hr7.below hbe) hri (by decide) (by decide) (by simp) (by simp)
  rw [decide_eq_true (show ([1] : List Int) = [1] from rfl)] at HEQ
  have HEQ := Lib.hid HEQ
  have HB8 := Lib.hid ((HV4.out w6 HB6.out).2.trans ((hb7.trans (hbe.mono hb7.size)).mono (HV4.out w6 HB6.out).2.size))
  clear h7 hr7 hb7 hl7 hbe hri HAL hk7
  go_wp2_with fail
  refine HEQ.out.mono ?_
  rintro e w8 ⟨rfl, hb8⟩
  have HE := Lib.hid (HB8.out.trans (hb8.mono HB8.out.size))
  clear hb8 HEQ HB8
  go_wp2_with fail
  go_ret
  exact ⟨rfl, HE.out⟩
end Go.Proofs.YtlpjggilkfpleaaGreat
