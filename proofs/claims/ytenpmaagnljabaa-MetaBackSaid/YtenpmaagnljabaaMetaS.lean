/-
  Contract of the plain meta's Put. Condition: lengths and numbers are ints.
-/
import Derived.Test.YtenpmaagnljabaaMetaR
import Derived.Lib.SlBytesConst
namespace Go.Proofs.Ytenpmaagnljabaa
open Go.RowKit
set_option maxRecDepth 100000
set_option linter.unusedVariables false

/-- append of one literal's bytes to another's: a new block. -/
theorem lit_grows (W : World) {a b : Nat} {l l' : List Int} (ha : RB W W.heap.size (some ⟨a, 0, none⟩) l.length l) (hb : RB W W.heap.size (some ⟨b, 0, none⟩) l'.length l') (h0 : 0 < l'.length) (hs : l.length + l'.length ≤ 100) (ty : TypeId) :
    ∃ g k w', (Builtin.append_ #[26, 26] ty #[.slice (some ⟨a, 0, none⟩) l.length l.length, .slice (some ⟨b, 0, none⟩) l'.length l'.length]).run Try.prog W = .ok (.slice (some ⟨g, 0, none⟩) (l.length + l'.length) k) w' ∧ l.length + l'.length ≤ k ∧ RB w' w'.heap.size (some ⟨g, 0, none⟩) (l.length + l'.length) (l ++ l') ∧ Below W.heap.size W w' ∧ w'.heap.size = W.heap.size + 1 := by
  obtain ⟨i0, hi, hz0, hz1, hz2⟩ := info_parts info_u8
  have src : ∀ {c : Nat} {m : List Int}, RB W W.heap.size (some ⟨c, 0, none⟩) m.length m → ∀ j v, (m.map (Value.int .u8))[j]? = some v → W.cell? (Addr.add ⟨c, 0, none⟩ j) = some v := fun h j v hv => by
    obtain ⟨ad, e, hc⟩ := h.src j v hv
    cases e
    exact hc
  have hrun := run_append_grow (P := Try.prog) (w := W) 26 ty 5 i0 (.int .u8 0) Try.underlying26 hi hz0 ⟨a, 0, none⟩ l.length l.length (l.map (Value.int .u8)) (by rw [hz1]; simp) (src ha) ⟨b, 0, none⟩ l'.length l'.length (l'.map (Value.int .u8)) (by rw [hz1]; simp) (src hb) (by omega) (by omega) (by rw [hz2]; exact growslice_fits (by omega) (by omega))
  have hge := grownCap_ge W (l.length + l'.length) l.length 5
  refine ⟨_, _, _, hrun, hge, ⟨by simp, ha.bytes.append hb.bytes, fun _ => ⟨W.heap.size, 0, rfl, ?_, fun j hj => ?_⟩⟩, ?_, ?_⟩
  · show W.heap.size < (W.drew.heap.push _).size
    rw [Array.size_push]
    exact Nat.lt_succ_self _
  · rw [Nat.zero_add, cell_of_row (W.drew.alloc _) W.heap.size j _ 5 (0, 0) (heap_alloc_new W.drew _)]
    have hj2 : j < (l ++ l').length := by simpa using hj
    rw [← Array.getElem?_toList]
    simp only [Array.toList_append]
    rw [List.getElem?_append_left (by simpa using hj2)]
    rw [← List.map_append, List.getElem?_map, List.getElem?_eq_getElem hj2]
    rfl
  · exact (Below.refl W.heap.size W).drew.alloc (Nat.le_refl _) _
  · show (W.drew.heap.push _).size = _
    rw [Array.size_push]
    rfl

set_option maxHeartbeats 6400000 in
theorem refMetaPut_any {w : World} {A : Option Addr} {k cap : Nat} (d f n c : Int) {l : List Int} (hr : RI w w.heap.size A k l) (hm : k ≤ maxLen) (hd : -9223372036854775808 ≤ d ∧ d ≤ 9223372036854775807) (hf : -9223372036854775808 ≤ f ∧ f ≤ 9223372036854775807) (hn : -9223372036854775808 ≤ n ∧ n ≤ 9223372036854775807) (hc : -9223372036854775808 ≤ c ∧ c ≤ 9223372036854775807) :
    Calls Try.prog 8 #[.agg #[.int .i64 d, .int .i64 f, .int .i64 n, .int .i64 c, .slice A k cap]] w fun e w' => ∃ A' n' c', e = .returned (.tuple #[.slice A' n' c', .int .i64 (putM ⟨d, f, n, c, l⟩).2]) ∧ n' ≤ c' ∧ RB w' w'.heap.size A' n' (putM ⟨d, f, n, c, l⟩).1 ∧ Below w.heap.size w w' := by
  have hX : Below w.heap.size w (w.alloc (.cells #[.int .i64 d, .int .i64 f, .int .i64 n, .int .i64 c, .slice A k cap] 24)) := (Below.refl _ _).alloc (Nat.le_refl _) _
  have hmb := MBox.new w d f n c (.slice A k cap)
  have hsz := hX.size
  have HM := Lib.hid (refMay_any (w := w.alloc (.cells #[.int .i64 d, .int .i64 f, .int .i64 n, .int .i64 c, .slice A k cap] 24)) (cap := cap) d f n c ((hr.below hX).more hsz) hm)
  have HR := Lib.hid hr
  have HB := Lib.hid hX
  have hlen := Lib.hid hr.len
  have hmay := fun h => may_few (m := ⟨d, f, n, c, l⟩) h
  obtain ⟨c0, c1, c2, c3, c4, hbl⟩ := hmb.cells
  have HMB := Lib.hid hmb
  cases hmb2 : mayB ⟨d, f, n, c, l⟩ with
  | false =>
    have hP : putM ⟨d, f, n, c, l⟩ = ([], 1) := by unfold putM; rw [if_neg (by rw [hmb2]; decide)]
    rw [hmb2] at HM
    rw [hP]
    clear hP hmay hmb2 hmb hX hr
    go_enter Try.func8, Try.ntmps8
    go_wp2_with fail
    refine HM.out.mono ?_
    rintro e w1 ⟨rfl, hb1⟩
    have hF := Lib.hid (HB.out.trans (hb1.mono hsz))
    clear hb1
    go_wp2
    go_ret2
    exact ⟨none, 0, 0, rfl, Nat.le_refl _, RB.nil_, hF.out⟩
  | true =>
    obtain ⟨⟨m1, m2⟩, ⟨m3, m4⟩, m5, m6⟩ := hmay hmb2
    have hk20 : k ≤ 20 := by have := hlen.out; simp at m4; omega
    have hd10 : 0 ≤ d ∧ d ≤ 10 := ⟨m1, m2⟩
    have hP : putM ⟨d, f, n, c, l⟩ = (metaL ⟨d, f, n, c, l⟩, 0) := by unfold putM; rw [if_pos hmb2]
    have HFD := Lib.hid m6
    have rf : rightB f 4 = true := fit_mem m5 (by simp)
    have rn : rightB n 4 = true := fit_mem m5 (by simp)
    have rc : rightB c 4 = true := fit_mem m5 (by simp)
    have hwd : IntKind.u8.wrap d = d := by unfold IntKind.wrap; simp [IntKind.bits, IntKind.signed]; omega
    have hwk : IntKind.u8.wrap (k : Int) = (k : Int) := by unfold IntKind.wrap; simp [IntKind.bits, IntKind.signed]; omega
    have e1 : putR ([69, 88, 67, 72, d, (k : Int)]) f 4 = [69, 88, 67, 72, d, (k : Int)] ++ putB f 4 := by unfold putR; rw [if_pos rf]; rfl
    have e2 : putR ([69, 88, 67, 72, d, (k : Int)] ++ putB f 4) n 4 = [69, 88, 67, 72, d, (k : Int)] ++ putB f 4 ++ putB n 4 := by unfold putR; rw [if_pos rn]; rfl
    have e3 : putR ([69, 88, 67, 72, d, (k : Int)] ++ putB f 4 ++ putB n 4) c 4 = [69, 88, 67, 72, d, (k : Int)] ++ putB f 4 ++ putB n 4 ++ putB c 4 := by unfold putR; rw [if_pos rc]; rfl
    have hfr : ∀ j, j ≤ k → ([69, 88, 67, 72, d, (k : Int)] ++ putB f 4 ++ putB n 4 ++ putB c 4 ++ numsL 4 (l.take j)).length = 18 + 4 * j := fun j hj => by
      have := hlen.out
      simp only [List.length_append, putB_length, numsL_length, List.length_take, List.length_cons, List.length_nil]
      rw [Nat.min_eq_left (by omega)]
    have hend : ([69, 88, 67, 72, d, (k : Int)] ++ putB f 4 ++ putB n 4 ++ putB c 4 ++ numsL 4 (l.take k)) ++ List.replicate (240 - (18 + 4 * k)) 0 = metaL ⟨d, f, n, c, l⟩ := by
      have hl := hlen.out
      unfold metaL
      rw [frontL_length]
      show _ = frontL ⟨d, f, n, c, l⟩ ++ List.replicate (240 - (18 + 4 * l.length)) 0
      rw [hl, List.take_of_length_le (by omega)]
      congr 1
      unfold frontL numsL
      have p1 : ∀ x : Int, 0 ≤ x ∧ x < 256 → putB x 1 = [x] := fun x hx => by
        show [] ++ [x % 256] = [x]
        rw [List.nil_append, Int.emod_eq_of_lt hx.1 hx.2]
      show _ = headL ++ (putB d 1 ++ (putB ((l.length : Nat) : Int) 1 ++ [])) ++ (putB f 4 ++ (putB n 4 ++ (putB c 4 ++ []))) ++ _
      rw [hl, p1 d (by omega), p1 (k : Int) (by omega)]
      unfold headL
      simp [List.append_assoc]
    have HQ := Lib.hid (And.intro e1 (And.intro e2 (And.intro e3 (And.intro hfr hend))))
    rw [hmb2] at HM
    rw [hP]
    have hw0 : w.heap.size < (w.alloc (.cells #[.int .i64 d, .int .i64 f, .int .i64 n, .int .i64 c, .slice A k cap] 24)).heap.size := hbl
    clear hP hmay hmb2 hmb hX hr m1 m2 m3 m4 m5 m6 e1 e2 e3 hfr hend rf rn rc
    go_enter Try.func8, Try.ntmps8
    go_wp2_with fail
    refine HM.out.mono ?_
    rintro e w1 ⟨rfl, hb1⟩
    have hmb1 := HMB.out.below hb1
    have hb01 := HB.out.trans (hb1.mono hsz)
    have hs1 := hb01.size
    clear hb1 c0 c1 c2 c3 c4
    obtain ⟨c0, c1, c2, c3, c4, hbl1⟩ := hmb1.cells
    have hcv := fun (w : World) (C : Array Value) (n c : Nat) => Lib.run_convert_bytes_const (P := Try.prog) w 26 5 C n c Try.underlying26 Try.underlying5
    have hX1 : Below w1.heap.size w1 (w1.alloc (.cells #[.int .u8 69, .int .u8 88, .int .u8 67, .int .u8 72] 5 (4, 5))) := (Below.refl _ _).alloc (Nat.le_refl _) _
    have hX2 : Below w1.heap.size w1 ((w1.alloc (.cells #[.int .u8 69, .int .u8 88, .int .u8 67, .int .u8 72] 5 (4, 5))).alloc (.cells #[.int .u8 d, .int .u8 (k : Int)] 5)) := hX1.alloc hX1.size _
    have hm0 := RB.mark w1 5 [69, 88, 67, 72] #[.int .u8 69, .int .u8 88, .int .u8 67, .int .u8 72] (4, 5) rfl (fun x hx => by
      simp at hx
      rcases hx with rfl | rfl | rfl | rfl <;> omega)
    have hm1 := (hm0.more (show w1.heap.size + 1 ≤ (w1.alloc (.cells #[.int .u8 69, .int .u8 88, .int .u8 67, .int .u8 72] 5 (4, 5))).heap.size by show _ ≤ (w1.heap.push _).size; rw [Array.size_push]; exact Nat.le_refl _)).alloc (Nat.le_refl _) (.cells #[.int .u8 d, .int .u8 (k : Int)] 5)
    have hm2 := hm1.more (show (w1.alloc (.cells #[.int .u8 69, .int .u8 88, .int .u8 67, .int .u8 72] 5 (4, 5))).heap.size ≤ ((w1.alloc (.cells #[.int .u8 69, .int .u8 88, .int .u8 67, .int .u8 72] 5 (4, 5))).alloc (.cells #[.int .u8 d, .int .u8 (k : Int)] 5)).heap.size by show _ ≤ (Array.push _ _).size; rw [Array.size_push]; exact Nat.le_succ _)
    have hlit := RB.lit (w1.alloc (.cells #[.int .u8 69, .int .u8 88, .int .u8 67, .int .u8 72] 5 (4, 5))) 5 [d, (k : Int)] #[.int .u8 d, .int .u8 (k : Int)] rfl (fun x hx => by
      simp at hx
      rcases hx with rfl | rfl
      · omega
      · omega)
    have hlit2 := hlit.more (show (w1.alloc (.cells #[.int .u8 69, .int .u8 88, .int .u8 67, .int .u8 72] 5 (4, 5))).heap.size + 1 ≤ ((w1.alloc (.cells #[.int .u8 69, .int .u8 88, .int .u8 67, .int .u8 72] 5 (4, 5))).alloc (.cells #[.int .u8 d, .int .u8 (k : Int)] 5)).heap.size by show _ ≤ (Array.push _ _).size; rw [Array.size_push]; exact Nat.le_refl _)
    have hsz1 : (w1.alloc (.cells #[.int .u8 69, .int .u8 88, .int .u8 67, .int .u8 72] 5 (4, 5))).heap.size = w1.heap.size + 1 := Array.size_push _
    rw [hsz1] at hlit2
    obtain ⟨g2, k2, w2, hrun, hk2, hr2, hg2, hsz2⟩ := lit_grows _ (l := [69, 88, 67, 72]) (l' := [d, (k : Int)]) hm2 hlit2 (by simp) (by simp) 26
    have hsX2 : w.heap.size ≤ ((w1.alloc (.cells #[.int .u8 69, .int .u8 88, .int .u8 67, .int .u8 72] 5 (4, 5))).alloc (.cells #[.int .u8 d, .int .u8 (k : Int)] 5)).heap.size := Nat.le_trans hs1 hX2.size
    have hX3 : Below w1.heap.size w1 w2 := hX2.trans (hg2.mono hX2.size)
    have hmb2 := hmb1.below hX3
    have hb02 : Below w.heap.size w w2 := hb01.trans (hX3.mono hs1)
    have hr2' : RB w2.drew w2.drew.heap.size (some ⟨g2, 0, none⟩) 6 [69, 88, 67, 72, d, (k : Int)] := hr2.drew
    have HP1 := Lib.hid (refPut_any (some ⟨g2, 0, none⟩) 6 k2 _ _ f 4 _ hr2' (Nat.le_refl _) (by decide) hf.1 hf.2)
    rw [HQ.out.1] at HP1
    have HB2 := Lib.hid (And.intro hmb2 hb02)
    have HRUN := Lib.hid hrun
    have hk26 : 6 ≤ k2 := hk2
    have hs2 : w2.heap.size = w1.heap.size + 3 := by rw [hsz2]; show (Array.push _ _).size + 1 = _; rw [Array.size_push, hsz1]
    obtain ⟨_, _, _, _, _, hbl2⟩ := hmb2.cells
    have d0 := (hmb2.cells).2.1
    have d1 := (hmb2.cells).2.2.1
    have d2 := (hmb2.cells).2.2.2.1
    clear hX1 hb01 hmb1 hX2 hm0 hm1 hm2 hlit hlit2 hr2 hg2 hX3 hmb2 hb02 hr2' hrun hsz2 hk2 hsX2
    go_wp2_with (at_builtin; refine Lib.wpList_append_run _ rfl _ _ _ _ rfl _ _ rfl rfl _ _ HRUN.out ?_)
    have c1 := d0
    have c2 := d1
    have c3 := d2
    have tok1 : True := trivial
    go_wp2_with fail
    go_region_held3 (fun w' => w'.cell? ⟨w.heap.size, 1, none⟩ = some (.int .i64 f) ∧ w'.cell? ⟨w.heap.size, 2, none⟩ = some (.int .i64 n) ∧ w'.cell? ⟨w.heap.size, 3, none⟩ = some (.int .i64 c))
      (first | with_reducible exact c7 | with_reducible exact c6 | with_reducible exact c5 | exact ⟨c1, c2, c3⟩)
      (first
        | (go_at_call 17; have _t := tok1; clear tok1; refine HP1.out.mono ?_; rintro e w3 ⟨A3, n3, k3, rfl, hk3, hr3, hb3⟩; have tok2 : True := trivial; have hn3 := hr3.len; have c5 : w3.cell? ⟨w.heap.size, 1, none⟩ = some (.int .i64 f) ∧ w3.cell? ⟨w.heap.size, 2, none⟩ = some (.int .i64 n) ∧ w3.cell? ⟨w.heap.size, 3, none⟩ = some (.int .i64 c) := ⟨(hb3.cell (p := ⟨w.heap.size, 1, none⟩) hbl2).trans c1, (hb3.cell (p := ⟨w.heap.size, 2, none⟩) hbl2).trans c2, (hb3.cell (p := ⟨w.heap.size, 3, none⟩) hbl2).trans c3⟩; have hbl3 : w.heap.size < w3.heap.size := Nat.lt_of_lt_of_le hbl2 hb3.size)
        | (go_at_call 17; have _t := tok2; clear tok2; refine (refPut_any A3 n3 k3 _ _ n 4 _ hr3 (Nat.le_refl _) (by rw [← hn3]; simp [putB_length]) hn.1 hn.2).mono ?_; rw [HQ.out.2.1]; rintro e w4 ⟨A4, n4, k4, rfl, hk4, hr4, hb4⟩; have tok3 : True := trivial; have hn4 := hr4.len; have c6 : w4.cell? ⟨w.heap.size, 1, none⟩ = some (.int .i64 f) ∧ w4.cell? ⟨w.heap.size, 2, none⟩ = some (.int .i64 n) ∧ w4.cell? ⟨w.heap.size, 3, none⟩ = some (.int .i64 c) := ⟨(hb4.cell (p := ⟨w.heap.size, 1, none⟩) hbl3).trans c5.1, (hb4.cell (p := ⟨w.heap.size, 2, none⟩) hbl3).trans c5.2.1, (hb4.cell (p := ⟨w.heap.size, 3, none⟩) hbl3).trans c5.2.2⟩; have hbl4 : w.heap.size < w4.heap.size := Nat.lt_of_lt_of_le hbl3 hb4.size)
        | (go_at_call 17; have _t := tok3; clear tok3; refine (refPut_own A4 n4 k4 _ _ c 4 _ hr4 (Nat.le_refl _) (by rw [← hn4]; simp [putB_length]) hc.1 hc.2).mono ?_; rw [HQ.out.2.2.1]; rintro e w5 ⟨v5, rfl, hown5, hb5⟩; have c7 : w5.cell? ⟨w.heap.size, 1, none⟩ = some (.int .i64 f) ∧ w5.cell? ⟨w.heap.size, 2, none⟩ = some (.int .i64 n) ∧ w5.cell? ⟨w.heap.size, 3, none⟩ = some (.int .i64 c) := ⟨(hb5.cell (p := ⟨w.heap.size, 1, none⟩) hbl4).trans c6.1, (hb5.cell (p := ⟨w.heap.size, 2, none⟩) hbl4).trans c6.2.1, (hb5.cell (p := ⟨w.heap.size, 3, none⟩) hbl4).trans c6.2.2⟩))
    have hmb5 : MBox w5 w.heap.size d f n c (.slice A k cap) := ((((HB2.out.1.below (Below.refl _ _).drew).below hb3).below hb4).below hb5)
    have hs3 := hb3.size
    have hs4 := hb4.size
    have hs5 := hb5.size
    have hs6 : w2.drew.heap.size = w2.heap.size := rfl
    rw [hs6] at hs3
    have hb05 : Below w.heap.size w w5 := ((HB2.out.2.drew.trans (hb3.mono (by show _ ≤ w2.heap.size; omega))).trans (hb4.mono (by omega))).trans (hb5.mono (by omega))
    have hownF := own_base_le hown5 (show w.heap.size ≤ w4.heap.size by omega)
    have hL18 : ([69, 88, 67, 72, d, (k : Int)] ++ putB f 4 ++ putB n 4 ++ putB c 4).length = 18 := by simp [putB_length]
    rw [hL18] at hownF
    have hby : AllBytes ([69, 88, 67, 72, d, (k : Int)] ++ putB f 4 ++ putB n 4 ++ putB c 4) := by
      refine ((AllBytes.append ?_ (putB_bytes f 4)).append (putB_bytes n 4)).append (putB_bytes c 4)
      intro x hx
      simp at hx
      rcases hx with rfl | rfl | rfl | rfl | rfl | rfl <;> omega
    have HL := Lib.hid HQ.out.2.2.2.1
    have HE := Lib.hid HQ.out.2.2.2.2
    generalize ([69, 88, 67, 72, d, (k : Int)] ++ putB f 4 ++ putB n 4 ++ putB c 4) = F at hownF hby HL HE
    have HOWN : Hid (w5.ownsRow w.heap.size 5 1 v5 (18 + 4 * 0) ((F ++ numsL 4 (l.take 0)).map (Value.int .u8))) := Lib.hid (by simpa [numsL] using hownF)
    have HMB5 := Lib.hid hmb5
    have HB05 := Lib.hid hb05
    clear hown5 hownF HP1 HQ HB2 HRUN HMB HM c0 c1 c2 c3 c4 c5 c6 c7 hr3 hr4 hb3 hb4 hb5 hn3 hn4 hk3 hk4 hmb5 hb05 hL18
    go_wp2_with fail
    go_loopw [4, 5] (fun v i wr => ∃ j : Nat, j ≤ k ∧ i = .int .i64 j ∧ Hid (wr.ownsRow w.heap.size 5 1 v (18 + 4 * j) ((F ++ numsL 4 (l.take j)).map (Value.int .u8))) ∧ Hid (MBox wr w.heap.size d f n c (.slice A k cap)) ∧ Hid (Below w.heap.size w wr)) (fun _ i _ => k - (intOf i).toNat)
    case atStart => exact ⟨0, Nat.zero_le _, rfl, HOWN, HMB5, HB05⟩
    case round =>
      clear HOWN HMB5 HB05
      obtain ⟨j, hj, rfl, hown, hmbr, hbr⟩ := hrel
      obtain ⟨c0, c1, c2, c3, c4, hblr⟩ := hmbr.out.cells
      by_cases hlt : j < k
      · obtain ⟨bb, off, rfl, hb, hcell⟩ := (HR.out.below hbr.out).2.2 (by omega)
        have hck := hcell j hlt
        have hlt' : (j : Int) < (k : Int) := by omega
        have hjl : j < l.length := by rw [hlen.out]; exact hlt
        have hx : l[j]?.getD 0 = l[j] := by rw [List.getElem?_eq_getElem hjl]; rfl
        have hrg := HR.out.2.1 _ (List.getElem_mem hjl)
        have hrt : rightB l[j] 4 = true := fit_mem HFD.out (List.getElem_mem hjl)
        have hnext : F ++ numsL 4 (l.take (j + 1)) = putR (F ++ numsL 4 (l.take j)) l[j] 4 := by
          have e : l.take (j + 1) = l.take j ++ [l[j]] := (List.take_append_getElem hjl).symm
          rw [e, numsL_append]
          unfold putR
          rw [if_pos hrt]
          show _ = F ++ numsL 4 (l.take j) ++ putB l[j] 4
          simp [numsL, List.append_assoc]
        obtain ⟨A2, k2, rfl, hk2, hr2⟩ := read_own hown.out (AllBytes.append hby (numsL_bytes 4 _))
        have HP := Lib.hid (refPut_own A2 (18 + 4 * j) k2 _ _ l[j] 4 _ hr2 (Nat.le_refl _) (by omega) hrg.1 hrg.2)
        rw [← hnext, HL.out (j + 1) hlt] at HP
        rw [hx] at hck
        have hsr := hbr.out.size
        clear hcell hr2 hx hrg hrt hnext hb
        generalize l[j] = u at hck HP
        go_wp2_with fail
        refine HP.out.mono ?_
        rintro e w6 ⟨v6, rfl, hown6, hb6⟩
        have HO6 := Lib.hid (own_base_le hown6 hsr)
        have HM6 := Lib.hid (hmbr.out.below hb6)
        have HB6 := Lib.hid (hbr.out.trans (hb6.mono hsr))
        clear hown6 hb6 c0 c1 c2 c3 c4 hck
        go_wp2
        go_round
        case rel => exact ⟨j + 1, by omega, by go_num, HO6, HM6, HB6⟩
        case measure => simp [intOf]; omega
      · obtain rfl : j = k := by omega
        have hrest := HL.out j (Nat.le_refl _)
        obtain ⟨A2, k2, rfl, hk2, hr2⟩ := read_own hown.out (AllBytes.append hby (numsL_bytes 4 _))
        obtain ⟨v7, w7, hrun, hown7, hg7⟩ := append_zeros (k := 240 - (18 + 4 * j)) hown.out (by omega) (by omega) (by omega) hbr.out.size 26
        rw [HE.out] at hown7
        have hb7 := hbr.out.grown hg7 hbr.out.size (fun g e => (own_at hown.out g e).1)
        have HRUN := Lib.hid hrun
        have HO7 := Lib.hid hown7
        have HB7 := Lib.hid hb7
        clear hrun hown7 hg7 hb7 hr2 hrest
        have hbyE : AllBytes (metaL ⟨d, f, n, c, l⟩) := by
          rw [← HE.out]
          exact (AllBytes.append hby (numsL_bytes 4 _)).append (fun x hx => by rw [List.mem_replicate] at hx; omega)
        have hN : 18 + 4 * j ≤ 98 := by omega
        have hN2 : 18 + 4 * j + (240 - (18 + 4 * j)) = 240 := by omega
        rw [hN2] at HO7
        have HBY := Lib.hid hbyE
        clear HE hbyE hN2
        generalize 18 + 4 * j = N at HRUN hN
        have hw240 : IntKind.i64.wrap (240 - (N : Int)) = ((240 - N : Nat) : Int) := by
          rw [IntKind.wrap_i64]
          omega
        go_wp2_with (at_builtin; refine Lib.wpList_append_run _ rfl _ _ _ _ rfl _ _ rfl rfl _ _ HRUN.out ?_)
        go_ret2
        obtain ⟨A8, k8, rfl, hk8, hr8⟩ := read_own HO7.out HBY.out
        exact ⟨A8, 240, k8, rfl, hk8, hr8, HB7.out⟩

end Go.Proofs.Ytenpmaagnljabaa
