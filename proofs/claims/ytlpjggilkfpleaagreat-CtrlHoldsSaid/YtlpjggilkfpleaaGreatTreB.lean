/-
  Contracts of tree over a view in memory: a year's nodes, those below one, the path above one, what limits are together. Conditions: which numbers are ints; what a scan comes to.
-/
import Derived.Test.YtlpjggilkfpleaaGreatTreA
import Derived.Test.YtlpjggilkfpleaaGreatViewN
import Derived.Test.YtlpjggilkfpleaaGreatChaA
import Derived.Lib.AppendZeros
import Derived.StillTailTactics

namespace Go.Proofs.YtlpjggilkfpleaaGreat
open Go.RowKit Go.Maps
set_option maxRecDepth 100000
set_option linter.unusedVariables false

theorem nodesK_len (ps : List KV) : (nodesK ps).length ≤ ps.length := List.length_filterMap_le _ _
theorem nodesK_step {ps : List KV} {k : Nat} {x : KV} (h : ps[k]? = some x) : nodesK (ps.take (k + 1)) = nodesK (ps.take k) ++ (ndK x).toList := by
  obtain ⟨hk, rfl⟩ := List.getElem?_eq_some_iff.1 h
  unfold nodesK
  rw [List.take_succ_eq_append_getElem hk, List.filterMap_append]
  congr 1
/-- All bytes, in all pairs. -/
def PairsN (ps : List KV) : Prop := ∀ x ∈ ps, AllBytes x.1 ∧ AllBytes x.2
theorem nodesK_ok {ps : List KV} (h : PairsN ps) : ∀ l ∈ nodesK ps, NdOk l := by
  intro l hl
  obtain ⟨q, hq, e⟩ := List.mem_filterMap.1 hl
  exact ndK_ok (h q hq).1 (h q hq).2 e
/-- What a scan of one year's nodes answers, from a world on. -/
def ScansN (w : World) (v : Nat) (y : Int) (ps : List KV) : Prop :=
  ∀ W A k, Below w.heap.size w W → RB W W.heap.size A 5 (keyL 78 [y]) → Calls Tryz.prog 69 #[.pointer (some ⟨v, 0, none⟩), .slice A 5 k] W fun e w' => ∃ A' n' k', e = .returned (.slice A' n' k') ∧ n' ≤ k' ∧ RPairs w' w'.heap.size A' n' ps ∧ Below W.heap.size W w'
/-- A row of nodes that a call built. -/
def NodesR (w w' : World) (u : Value) (l : List Nd) : Prop := NdE.Own 23 w' w.heap.size u l ∧ (∀ x ∈ l, NdOk x) ∧ Below w.heap.size w w'
section
variable {w w' : World} {v : Nat}
set_option maxHeartbeats 6400000 in
theorem treeNodes_of {ps : List KV} {y : Int} (hy : Nd64 y) (hs : ScansN w v y ps) (hl : ps.length ≤ 2147483647) :
    Calls Tryz.prog 43 #[.agg #[.pointer (some ⟨v, 0, none⟩), .int .i64 y]] w fun e w' => ∃ u, e = .returned u ∧ NodesR w w' u (if heldB y then nodesK ps else []) := by
  obtain ⟨w1, hw1⟩ : ∃ w1, w1 = w.alloc (.cells #[.pointer (some ⟨v, 0, none⟩), .int .i64 y] 91) := ⟨_, rfl⟩
  have hb1 : Below w.heap.size w w1 := by rw [hw1]; exact (Below.refl _ _).alloc (Nat.le_refl _) _
  have hs1 : w1.heap.size = w.heap.size + 1 := by rw [hw1]; simp
  have c0 : w1.cell? ⟨w.heap.size, 0, none⟩ = some (.pointer (some ⟨v, 0, none⟩)) := by rw [hw1]; exact cell_of_row _ _ 0 _ _ (0, 0) (heap_alloc_new w _)
  have c1 : w1.cell? ⟨w.heap.size, 1, none⟩ = some (.int .i64 y) := by rw [hw1]; exact cell_of_row _ _ 1 _ _ (0, 0) (heap_alloc_new w _)
  have H1 := heldT_any y
  have HB := Lib.hid hb1
  cases e1 : heldB y with
  | false =>
    rw [e1] at H1
    clear hb1 hs
    go_enter Tryz.func43, Tryz.ntmps43
    go_wp2_with fail
    rw [← hw1]
    clear hw1
    refine (H1 _).mono ?_
    rintro e w' ⟨rfl, rfl⟩
    go_wp2_with fail
    go_ret
    exact ⟨_, rfl, Enc.Own.start _ _ _, (fun x h => by cases h), HB.out⟩
  | true =>
    rw [e1] at H1
    have HC := Lib.hid (show ∀ W, Below w1.heap.size w1 W → W.cell? ⟨w.heap.size, 0, none⟩ = some (.pointer (some ⟨v, 0, none⟩)) ∧ W.cell? ⟨w.heap.size, 1, none⟩ = some (.int .i64 y) from fun W hW =>
      ⟨(hW.cell (p := ⟨w.heap.size, 0, none⟩) (by show w.heap.size < w1.heap.size; omega)).trans c0, (hW.cell (p := ⟨w.heap.size, 1, none⟩) (by show w.heap.size < w1.heap.size; omega)).trans c1⟩)
    have HK := Lib.hid (key_at 78 [y] 1 5 u8_78 (fun z hz => by obtain rfl := List.mem_singleton.1 hz; exact hy) rfl (by omega) rfl)
    have HS := Lib.hid (show ∀ W A k, Below w1.heap.size w1 W → RB W W.heap.size A 5 (keyL 78 [y]) → Calls Tryz.prog 69 #[.pointer (some ⟨v, 0, none⟩), .slice A 5 k] W fun e w' => ∃ A' n' k', e = .returned (.slice A' n' k') ∧ n' ≤ k' ∧ RPairs w' w'.heap.size A' n' ps ∧ Below W.heap.size W w' from fun W A k hW hr => hs W A k (hb1.trans (hW.mono hb1.size)) hr)
    have HL := Lib.hid hl
    clear hb1 hs e1 hy hs1 hl
    go_enter Tryz.func43, Tryz.ntmps43
    go_wp2_with fail
    rw [← hw1]
    clear hw1
    refine (H1 _).mono ?_
    rintro e w' ⟨rfl, rfl⟩
    clear H1 c0 c1
    go_wp2_with fail
    go_region_held3 (fun W => W.cell? ⟨w.heap.size, 0, none⟩ = some (.pointer (some ⟨v, 0, none⟩)) ∧ W.cell? ⟨w.heap.size, 1, none⟩ = some (.int .i64 y))
      (first | exact HC.out _ ((Below.refl _ _).drew) | exact HC.out _ (((Below.refl _ _).alloc (Nat.le_refl _) _).drew) | exact HC.out _ ((Below.refl _ _).drew.alloc (Nat.le_refl _) _) | exact HC.out _ hb2 | exact HC.out _ hb3)
      (first
      | (go_at_call 70; refine Calls.mono (HK.out _ _ ?_) ?_; (first | exact RowN.a (l := [y]) _ _ | exact RowN.a' (l := [y]) _ _ | exact RowN.b (l := [y]) _ _ _ | exact RowN.c (l := [y]) _ _ _ | exact RowN.d (l := [y]) _ _ _); rintro e w2 ⟨A, k, rfl, ko⟩; have ko1 := (by first | exact ko.of_le (w0 := w1) ((Below.refl _ _).alloc (Nat.le_refl _) _).drew | exact ko.of_le (w0 := w1) ((Below.refl _ _).drew.alloc (Nat.le_refl _) _) : OwnB w1 w2 (.slice A 5 k) _); have hb2 := ko1.2; have hrk := ko1.read (tagL_bytes u8_78 _); rw [nYearLen] at hrk; obtain ⟨A9, k9, e9, hk9, hr9⟩ := hrk; injection e9 with q1 q2 q3; subst q1 q3; clear q2; have HCS := Lib.hid (HS.out w2 A k hb2 hr9); clear ko ko1 hr9)
      | (go_at_call 69; refine Calls.mono HCS.out ?_; rintro e w3 ⟨A2, n, k2, rfl, hnk, hp, hb3'⟩; have hb3 := hb2.trans (hb3'.mono hb2.size)))
    have HP := Lib.hid hp
    have HB2 := Lib.hid (HB.out.trans (hb3.mono HB.out.size))
    have hn : n ≤ 2147483647 := by rw [← hp.len]; exact HL.out
    clear hp hb2 hb3 hb3' HC HK HS HL HCS hk9
    go_wp2_with fail
    go_loopw [3, 20] (fun u i wr => ∃ k : Nat, k ≤ n ∧ i = .int .i64 k ∧ Hid (NdE.Own 23 wr w3.heap.size u (nodesK (ps.take k)) ∧ PairsN (ps.take k)) ∧ Hid (Below w3.heap.size w3 wr)) (fun _ i _ => n - (intOf i).toNat)
    case atStart => exact ⟨0, Nat.zero_le _, rfl, Lib.hid ⟨Enc.Own.start _ _ _, fun x hx => by cases hx⟩, Lib.hid (Below.refl _ _)⟩
    case round =>
      obtain ⟨k, hk, rfl, hown, hbw⟩ := hrel
      by_cases hlt : k < n
      · have hlt' : (k : Int) < (n : Int) := by omega
        obtain ⟨bb, off, rfl, hbb, hat⟩ := HP.out.2 (by omega)
        obtain ⟨x, hx⟩ : ∃ x, ps[k]? = some x := ⟨_, List.getElem?_eq_getElem (by rw [HP.out.len]; exact hlt)⟩
        obtain ⟨ka, kn, kc, va, vn, vc, h0, h1, h2, ⟨h3a, h3b⟩, h4, ⟨h5a, h5b⟩⟩ := (hat k x hx).keep hbb (fun b o hbb => hbw.out.cell (p := ⟨b, o, none⟩) hbb)
        have hst := nodesK_step hx
        have hlen : (nodesK (ps.take k)).length ≤ k := Nat.le_trans (nodesK_len _) (by rw [List.length_take]; exact Nat.min_le_left _ _)
        have hPB := Lib.hid (show PairsN (ps.take (k + 1)) from by
          obtain ⟨hk', e⟩ := List.getElem?_eq_some_iff.1 hx
          rw [List.take_succ_eq_append_getElem hk', e]
          intro z hz
          rcases List.mem_append.1 hz with hz | hz
          · exact hown.out.2 z hz
          · obtain rfl := List.mem_singleton.1 hz
            exact ⟨h2.bytes, h4.bytes⟩)
        have hxok := Lib.hid (show ∀ l, ndK x = some l → NdOk l from fun l h => ndK_ok h2.bytes h4.bytes h)
        obtain ⟨w4, hw4⟩ : ∃ w4, w4 = wr.alloc (.cells #[.slice ka kn kc, .slice va vn vc] 88) := ⟨_, rfl⟩
        have hba : Below wr.heap.size wr w4 := by rw [hw4]; exact (Below.refl _ _).alloc (Nat.le_refl _) _
        have q0 : w4.cell? ⟨wr.heap.size, 0, none⟩ = some (.slice ka kn kc) := by rw [hw4]; exact cell_of_row _ _ 0 _ _ (0, 0) (heap_alloc_new wr _)
        have q1 : w4.cell? ⟨wr.heap.size, 1, none⟩ = some (.slice va vn vc) := by rw [hw4]; exact cell_of_row _ _ 1 _ _ (0, 0) (heap_alloc_new wr _)
        have HG := recNodeOf_any ka kn kc va vn vc x w3.heap.size w4 (h2.below (hba.mono hbw.out.size)) (h4.below (hba.mono hbw.out.size)) (Nat.le_trans hbw.out.size hba.size) h3a h5a h3b h5b
        rw [nodeV_w, ndK_some] at HG
        have HG := Lib.hid HG
        have HA := Lib.hid (hbw.out.trans (hba.mono hbw.out.size))
        have HO := Lib.hid (hown.out.1.below hba)
        generalize ndK x = L at HG hst hxok
        have HST := Lib.hid hst
        clear hat hx h2 h4 hown hbw hba hst
        go_wp2_with fail
        rw [← hw4]
        go_wp2_with fail
        refine HG.out.mono ?_
        rintro e w5 ⟨rfl, hb5⟩
        have ha5 := HA.out.trans (hb5.mono HA.out.size)
        have ho5 := HO.out.below hb5
        clear HA HO HG hb5 hw4 q0 q1 h3a h3b h5a h5b h0 h1
        cases L with
        | none =>
          have hX : Below w5.heap.size w5 (w5.alloc (.cells #[.int .i64 0, .int .i64 0, .int .i64 0, .int .i64 0, .int .i64 0, .bool false, .int .i64 0, .int .i64 0, .int .i64 0, .int .i64 0, .int .i64 0, .int .i64 0] 23 (0, 0))) := (Below.refl _ _).alloc (Nat.le_refl _) _
          have HE := Lib.hid (show NdE.Own 23 (w5.alloc (.cells #[.int .i64 0, .int .i64 0, .int .i64 0, .int .i64 0, .int .i64 0, .bool false, .int .i64 0, .int .i64 0, .int .i64 0, .int .i64 0, .int .i64 0, .int .i64 0] 23 (0, 0))) w3.heap.size _ (nodesK (ps.take (k + 1))) ∧ PairsN (ps.take (k + 1)) from ⟨by rw [HST.out]; show NdE.Own _ _ _ _ (_ ++ []); rw [List.append_nil]; exact ho5.below hX, hPB.out⟩)
          have HBX := Lib.hid (ha5.trans (hX.mono ha5.size))
          clear hX ha5 ho5
          simp only [ndW, ndO, Option.getD_none, ndNil]
          go_wp2_with fail
          go_roundw
          case rel => exact ⟨k + 1, by omega, by go_num, HE, HBX⟩
          case measure => simp [intOf]; omega
        | some l =>
          have hok := hxok.out l rfl
          obtain ⟨a0, a1, a2, a3, a4, a5, a6, a7, a8, a9, a10, a11⟩ := l
          have hX : Below w5.heap.size w5 (w5.alloc (.cells #[.int .i64 a0, .int .i64 a1, .int .i64 a2, .int .i64 a3, .int .i64 a4, .bool a5, .int .i64 a6, .int .i64 a7, .int .i64 a8, .int .i64 a9, .int .i64 a10, .int .i64 a11] 23 (0, 0))) := (Below.refl _ _).alloc (Nat.le_refl _) _
          obtain ⟨wx, hwx⟩ : ∃ wx, wx = w5.alloc (.cells #[.int .i64 a0, .int .i64 a1, .int .i64 a2, .int .i64 a3, .int .i64 a4, .bool a5, .int .i64 a6, .int .i64 a7, .int .i64 a8, .int .i64 a9, .int .i64 a10, .int .i64 a11] 23 (0, 0)) := ⟨_, rfl⟩
          have hblk : wx.heap[w5.heap.size]? = some (.cells #[.int .i64 a0, .int .i64 a1, .int .i64 a2, .int .i64 a3, .int .i64 a4, .bool a5, .int .i64 a6, .int .i64 a7, .int .i64 a8, .int .i64 a9, .int .i64 a10, .int .i64 a11] 23 (0, 0)) := by rw [hwx]; exact heap_alloc_new w5 _
          have hsz : wx.heap.size = w5.heap.size + 1 := by rw [hwx]; simp
          rw [← hwx] at hX
          obtain ⟨r0, r1, r2, r3, r4, r5, r6, r7, r8, r9, r10, r11⟩ := node_cells hblk
          have hY : Below wx.heap.size wx (wx.alloc (.cells #[.int .i64 a0, .int .i64 a1, .int .i64 a2, .int .i64 a3, .int .i64 a4, .bool a5, .int .i64 a6, .int .i64 a7, .int .i64 a8, .int .i64 a9, .int .i64 a10, .int .i64 a11] 23 (0, 0))) := (Below.refl _ _).alloc (Nat.le_refl _) _
          have hXY := hX.trans (hY.mono hX.size)
          obtain ⟨v', w6, hrun, hown6, hb6, _⟩ := (ho5.below hXY).append1 NdT (x := ⟨a0, a1, a2, a3, a4, a5, a6, a7, a8, a9, a10, a11⟩) (heap_alloc_new wx _) rfl hok (by omega) (Nat.le_trans ha5.size hXY.size) 29
          rw [hsz] at hrun
          have HE := Lib.hid (show NdE.Own 23 w6 w3.heap.size v' (nodesK (ps.take (k + 1))) ∧ PairsN (ps.take (k + 1)) from ⟨by rw [HST.out]; exact hown6, hPB.out⟩)
          have HBX := Lib.hid ((ha5.trans (hXY.mono ha5.size)).trans hb6)
          subst hwx
          have HRUN := Lib.hid hrun
          clear hX hY hXY ha5 ho5 hrun hown6 hb6 hblk hok hsz
          simp only [ndW, ndO, Option.getD_some]
          go_wp2_with (at_builtin; refine Lib.wpList_append_run _ rfl _ _ _ _ rfl _ _ rfl rfl _ _ HRUN.out ?_)
          go_roundw
          case rel => exact ⟨k + 1, by omega, by go_num, HE, HBX⟩
          case measure => simp [intOf]; omega
      · obtain rfl : k = n := by omega
        have HE := Lib.hid (show NodesR w wr _ (nodesK ps) from by
          have h := hown.out
          rw [List.take_of_length_le (by rw [HP.out.len]; exact Nat.le_refl _)] at h
          exact ⟨h.1.base_le HB2.out.size, nodesK_ok h.2, HB2.out.trans (hbw.out.mono HB2.out.size)⟩)
        clear hown
        go_wp2
        go_ret
        exact ⟨_, rfl, HE.out⟩
set_option maxHeartbeats 800000 in
theorem treeAll_of {ps : List KV} {y : Int} (hy : Nd64 y) (hs : ScansN w v y ps) (hl : ps.length ≤ 2147483647) :
    Calls Tryz.prog 12 #[.pointer (some ⟨v, 0, none⟩), .int .i64 y] w fun e w' => ∃ u, e = .returned u ∧ NodesR w w' u (if heldB y then nodesK ps else []) := by
  have HL := Lib.hid (treeNodes_of hy hs hl)
  generalize (if heldB y then nodesK ps else []) = o at HL ⊢
  clear hs
  go_enter Tryz.func12, Tryz.ntmps12
  go_wp2_with fail
  refine HL.out.mono ?_
  rintro e w2 ⟨u, rfl, h2⟩
  have HE := Lib.hid h2
  clear h2 HL
  go_wp2_with fail
  go_ret
  exact ⟨_, rfl, HE.out⟩
end
end Go.Proofs.YtlpjggilkfpleaaGreat
