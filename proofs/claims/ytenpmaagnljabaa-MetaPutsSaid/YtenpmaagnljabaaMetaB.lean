/-
  Contracts of meta's mayBe and lay. Conditions: lengths are ints; what is laid lies within the page, and is right.
-/
import Derived.Test.YtenpmaagnljabaaMetaA
namespace Go.Proofs.Ytenpmaagnljabaa
open Go.RowKit
set_option maxRecDepth 100000
set_option linter.unusedVariables false

theorem row_src {w : World} {g : Nat} {l : List Int} (h : w.heap[g]? = some (.cells (l.map (Value.int .u8)).toArray 5 (0, 0))) : ∀ j v, (l.map (Value.int .u8))[j]? = some v → w.cell? ((⟨g, 0, none⟩ : Addr).add j) = some v := by
  intro j v hv
  rw [add_none, Nat.zero_add, cell_of_row w g j _ _ (0, 0) h, List.getElem?_toArray]
  exact hv
set_option maxHeartbeats 1600000 in
theorem mayBe_any {w : World} {A : Option Addr} {k cap : Nat} (d f n c : Int) {l : List Int} (hr : RI w w.heap.size A k l) (hm : k ≤ maxLen) (hb : (-9223372036854775808 ≤ f ∧ f ≤ 9223372036854775807) ∧ (-9223372036854775808 ≤ n ∧ n ≤ 9223372036854775807) ∧ (-9223372036854775808 ≤ c ∧ c ≤ 9223372036854775807)) :
    Calls Try.prog 14 #[.agg #[.int .i64 d, .int .i64 f, .int .i64 n, .int .i64 c, .slice A k cap]] w fun e w' => e = .returned (.bool (mayB ⟨d, f, n, c, l⟩)) ∧ Below w.heap.size w w' := by
  have hlen := hr.len
  have hbox : Below w.heap.size w (w.alloc (.cells #[.int .i64 d, .int .i64 f, .int .i64 n, .int .i64 c, .slice A k cap] 24)) := (Below.refl _ _).alloc (Nat.le_refl _) _
  have hmay : mayB ⟨d, f, n, c, l⟩ = (decide (0 ≤ d) && decide (d ≤ 10) && decide (1 ≤ (k : Int)) && decide ((k : Int) ≤ 20) && fitB [f, n, c] && fitB l) := by
    unfold mayB
    show (decide (0 ≤ d) && decide (d ≤ 10) && decide (1 ≤ l.length) && decide (l.length ≤ 20) && fitB [f, n, c] && fitB l) = _
    rw [hlen]
    congr 4
    · have : (1 ≤ k) = (1 ≤ (k : Int)) := propext (by omega)
      simp [this]
    · have : (k ≤ 20) = ((k : Int) ≤ 20) := propext (by omega)
      simp [this]
  rw [hmay]
  have hbox2 := hbox.alloc hbox.size (.cells #[.int .i64 f, .int .i64 n, .int .i64 c] 3)
  have hlit : RI ((w.alloc (.cells #[.int .i64 d, .int .i64 f, .int .i64 n, .int .i64 c, .slice A k cap] 24)).alloc (.cells #[.int .i64 f, .int .i64 n, .int .i64 c] 3)) (w.heap.size + 2) (some ⟨w.heap.size + 1, 0, none⟩) 3 [f, n, c] := by
    have := RI.lit (w.alloc (.cells #[.int .i64 d, .int .i64 f, .int .i64 n, .int .i64 c, .slice A k cap] 24)) 3 [f, n, c] #[.int .i64 f, .int .i64 n, .int .i64 c] rfl (fun x hx => by
      simp at hx
      rcases hx with rfl | rfl | rfl
      · exact hb.1
      · exact hb.2.1
      · exact hb.2.2)
    simpa using this
  have HF3 := Lib.hid (fit_any 3 hlit (by decide))
  have HFD := Lib.hid (fit_any cap (hr.below hbox2) hm)
  have HB1 := Lib.hid hbox
  have HB2 := Lib.hid hbox2
  clear hmay hlit hbox hbox2 hr hlen hb
  generalize g1 : decide (0 ≤ d) = b1
  generalize g2 : decide (d ≤ 10) = b2
  generalize g3 : decide (1 ≤ (k : Int)) = b3
  generalize g4 : decide ((k : Int) ≤ 20) = b4
  generalize hx5 : fitB [f, n, c] = b5 at HF3
  generalize hx6 : fitB l = b6 at HFD
  clear hx5 hx6
  cases b1
  · have hF := Lib.hid HB1.out
    clear HB1 HB2 HF3 HFD
    go_enter Try.func14, Try.ntmps14
    go_wp2
    go_ret
    exact ⟨rfl, hF.out⟩
  cases b2
  · have hF := Lib.hid HB1.out
    clear HB1 HB2 HF3 HFD
    go_enter Try.func14, Try.ntmps14
    go_wp2
    go_ret
    exact ⟨rfl, hF.out⟩
  cases b3
  · have hF := Lib.hid HB1.out
    clear HB1 HB2 HF3 HFD
    go_enter Try.func14, Try.ntmps14
    go_wp2
    go_ret
    exact ⟨rfl, hF.out⟩
  cases b4
  · have hF := Lib.hid HB1.out
    clear HB1 HB2 HF3 HFD
    go_enter Try.func14, Try.ntmps14
    go_wp2
    go_ret
    exact ⟨rfl, hF.out⟩
  cases b5
  · go_enter Try.func14, Try.ntmps14
    go_wp2_with fail
    refine HF3.out.mono ?_
    rintro e w' ⟨rfl, rfl⟩
    go_wp2
    go_ret
    exact ⟨rfl, HB2.out⟩
  cases b6
  · go_enter Try.func14, Try.ntmps14
    go_wp2_with fail
    refine HF3.out.mono ?_
    rintro e w' ⟨rfl, rfl⟩
    go_wp2_with fail
    refine HFD.out.mono ?_
    rintro e w' ⟨rfl, rfl⟩
    go_wp2
    go_ret
    exact ⟨rfl, HB2.out⟩
  · go_enter Try.func14, Try.ntmps14
    go_wp2_with fail
    refine HF3.out.mono ?_
    rintro e w' ⟨rfl, rfl⟩
    go_wp2_with fail
    refine HFD.out.mono ?_
    rintro e w' ⟨rfl, rfl⟩
    go_wp2
    go_ret
    exact ⟨rfl, HB2.out⟩


set_option maxHeartbeats 3200000 in
theorem lay_any {w : World} {g a s n cap B : Nat} {A : Option Addr} {L l : List Int} (hp : w.heap[g]? = some (.cells (L.map (Value.int .u8)).toArray 5 (0, 0))) (hL : L.length = 240) (hr : RI w B A n l) (hB : B ≤ w.heap.size) (hA : 0 < n → ∀ x, A = some x → x.block ≠ g) (hs : s = 1 ∨ s = 4) (ha : a + s * n < 240) (hfit : ∀ x ∈ l, rightB x (s : Int) = true) :
    Calls Try.prog 15 #[.slice (some ⟨g, 0, none⟩) 240 240, .int .i64 (a : Int), .int .i64 (s : Int), .slice A n cap] w fun e w' => e = .returned (.int .i64 ((a + s * n : Nat) : Int)) ∧ w'.heap[g]? = some (.cells ((splice L a (numsL s l)).map (Value.int .u8)).toArray 5 (0, 0)) ∧ Touch (fun j => j = g) w w' := by
  have hlen := hr.len
  have hgl : g < w.heap.size := (Array.getElem?_eq_some_iff.1 hp).1
  have hs8 : 1 ≤ s ∧ s ≤ 8 := by omega
  have HFIT := Lib.hid hfit
  have HLL := Lib.hid hL
  have HBY := Lib.hid hr.2.1
  have HR := Lib.hid hr
  have HBG := Lib.hid hB
  have HA := Lib.hid hA
  have HN := Lib.hid hlen
  have HP := Lib.hid hp
  have hn240 : n ≤ 240 := by
    rcases hs with rfl | rfl <;> omega
  have HSS := Lib.hid hs
  clear hfit hL hlen hr hB hp hs hA
  go_enter Try.func15, Try.ntmps15
  go_wp2_with fail
  go_loopw [1, 13] (fun av i wr => ∃ k : Nat, k ≤ n ∧ i = .int .i64 k ∧ av = .int .i64 ((a + s * k : Nat) : Int) ∧ Hid (wr.heap[g]? = some (.cells ((splice L a (numsL s (l.take k))).map (Value.int .u8)).toArray 5 (0, 0))) ∧ Hid (Touch (fun j => j = g) w wr)) (fun _ i _ => n - (intOf i).toNat)
  case atStart =>
    refine ⟨0, Nat.zero_le _, rfl, by rw [Nat.mul_zero, Nat.add_zero], Lib.hid ?_, Lib.hid (Touch.refl _ _)⟩
    rw [List.take_zero, show splice L a (numsL s []) = L from by unfold splice; simp [numsL]]
    exact HP.out
  case round =>
    obtain ⟨k, hk, rfl, rfl, hblk, htc⟩ := hrel
    by_cases hlt : k < n
    · have hlt' : (k : Int) < (n : Int) := by omega
      obtain ⟨b, off, rfl, hb, hcell⟩ := HR.out.2.2 (by omega)
      have hck := (World.cell?_of_block (a := ⟨b, off + k, none⟩) (htc.out.block b (by have := HBG.out; omega) (HA.out (by omega) _ rfl))).trans (hcell k hlt)
      have hmem : (l[k]?.getD 0) ∈ l := by
        rw [List.getElem?_eq_getElem (show k < l.length by have := HN.out; omega)]
        exact List.getElem_mem _
      have HPUT := Lib.hid (fun w1 => PutNil_any (l[k]?.getD 0) s w1 (HFIT.out _ hmem) hs8.2 (HBY.out _ hmem))
      have hat : a + s * k + s ≤ a + s * n := by
        have : s * (k + 1) ≤ s * n := Nat.mul_le_mul_left s hlt
        rw [Nat.mul_succ] at this
        omega
      have HNX := Lib.hid (show splice (splice L a (numsL s (l.take k))) (a + s * k) (putB (l[k]?.getD 0) s) = splice L a (numsL s (l.take (k + 1))) from by
        have hkl : k < l.length := by have := HN.out; omega
        have e1 : (numsL s (l.take k)).length = s * k := by rw [numsL_length, List.length_take, Nat.min_eq_left (by omega)]
        have := splice_more (L := L) (d := numsL s (l.take k)) (e := putB (l[k]?.getD 0) s) (a := a) (by rw [e1, putB_length, HLL.out]; omega)
        rw [e1] at this
        rw [this, List.take_succ_eq_append_getElem hkl, numsL_append, List.getElem?_eq_getElem hkl]
        congr 2
        show putB l[k] s = putB l[k] s ++ []
        rw [List.append_nil])
      have HLS := Lib.hid (show (splice L a (numsL s (l.take k))).length = 240 from by
        rw [length_splice _ _ _ (by rw [numsL_length, List.length_take, HLL.out, Nat.min_eq_left (by have := HN.out; omega)]; omega)]
        exact HLL.out)
      have hat2 : a + s * k < 240 := by omega
      have hne : ¬ (a + s * k = 240) := by omega
      have hI1 : (0 : Int) ≤ ((a + s * k : Nat) : Int) := by omega
      have hI2 : ((a + s * k : Nat) : Int) ≤ 240 := by omega
      have hI3 : IntKind.i64.wrap (((a + s * k : Nat) : Int) + (s : Int)) = ((a + s * k + s : Nat) : Int) := by unfold IntKind.wrap; simp [IntKind.bits, IntKind.signed]; omega
      have hgwr : g < wr.heap.size := Nat.lt_of_lt_of_le hgl htc.out.size
      clear hcell hmem
      generalize hLk : splice L a (numsL s (l.take k)) = Lk at *
      generalize l[k]?.getD 0 = u at *
      generalize hak : a + s * k = ak at *
      go_wp2_with fail
      go_region_held3 (fun w' => True) (exact trivial)
        (first
          | (go_at_call 23; refine (HPUT.out _).mono ?_; rintro e w2 ⟨g2, rfl, hg2, hh2, hb2⟩)
          | (refine step_copy_at (by rfl) _ _ 26 26 (by rfl) 5 Try.underlying26 size_u8' (some ⟨g, ak, none⟩) ⟨g2, 0, none⟩ (240 - ak) (240 - ak) s s (by rfl) (by rfl) g ak rfl (Lk.map (Value.int .u8)) 5 ((hb2.block g hgwr).trans hblk.out) ((putB u s).map (Value.int .u8)) (by rw [List.length_map, putB_length]; exact (Nat.min_eq_left (by omega)).symm) (fun j v hj => row_src hh2 j v hj) (by rw [List.length_map, List.length_map, putB_length, HLS.out]; omega) (oneCell_bytes _) ?_; intro w3 hblk3 htc3))
      have HE := Lib.hid (show w3.heap[g]? = some (.cells ((splice L a (numsL s (l.take (k + 1)))).map (Value.int .u8)).toArray 5 (0, 0)) from by
        have := hblk3.out
        have hsm := splice_map (L := Lk) (d := putB u s) (tl := []) (o := ak) (by rw [putB_length, HLS.out]; omega)
        rw [List.append_nil, List.append_nil] at hsm
        rw [hsm, HNX.out] at this
        exact this)
      have HT := Lib.hid (show Touch (fun j => j = g) w w3 from by
        have t1 := htc.out
        have t3 := htc3.out
        have h2s : wr.heap.size ≤ w2.heap.size := hb2.size
        exact ⟨t3.os.trans (hb2.os.trans t1.os), t3.tape.trans (hb2.tape.trans t1.tape), t3.output.trans (hb2.output.trans t1.output), Nat.le_trans t1.size (Nat.le_trans h2s t3.size), fun j hj hn => (t3.block j (Nat.lt_of_lt_of_le hj (Nat.le_trans t1.size h2s)) hn).trans ((hb2.block j (Nat.lt_of_lt_of_le hj t1.size)).trans (t1.block j hj hn))⟩)
      have HAK := Lib.hid (show ak + s = a + s * (k + 1) by rw [← hak, Nat.mul_succ, Nat.add_assoc])
      clear hblk htc hblk3 htc3 hb2 hh2 hg2 HPUT HNX hak
      rw [putB_length, hI3]
      go_wp2
      go_roundw
      case rel => exact ⟨k + 1, by omega, by go_num, by rw [HAK.out], HE, HT⟩
      case measure => simp [intOf]; omega
    · obtain rfl : k = n := by omega
      have HE := Lib.hid (show wr.heap[g]? = some (.cells ((splice L a (numsL s l)).map (Value.int .u8)).toArray 5 (0, 0)) from by
        have := hblk.out
        rwa [List.take_of_length_le (by have := HN.out; omega)] at this)
      go_wp2
      go_ret
      exact ⟨rfl, HE.out, htc.out⟩

end Go.Proofs.Ytenpmaagnljabaa
