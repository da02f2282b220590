/-
  The texts TreB, NodD, TreC joined. Conditions: those that each part says at its head.
-/
import Derived.Test.YtlcbmobdokicaaaGreatTreA
import Derived.Test.YtlcbmobdokicaaaGreatViewN
import Derived.Test.YtlcbmobdokicaaaGreatManS
import Derived.Lib.AppendZeros
import Derived.StillTailTactics
import Derived.Test.YtlcbmobdokicaaaGreatTreP
import Derived.Test.YtlcbmobdokicaaaGreatViewC
import Derived.WalkMore

/-
  Contracts of tree over a view in memory: a year's nodes, those below one, the path above one, what limits are together. Conditions: which numbers are ints; what a scan comes to.
-/

namespace Go.Proofs.YtlcbmobdokicaaaGreat
open Go.RowKit Go.Maps
set_option maxRecDepth 100000
set_option linter.unusedVariables false

theorem nodesK_len (ps : List KV) : (nodesK ps).length ≤ ps.length := List.length_filterMap_le _ _
theorem nodesK_step {ps : List KV} {k : Nat} {x : KV} (h : ps[k]? = some x) : nodesK (ps.take (k + 1)) = nodesK (ps.take k) ++ (ndK x).toList := by
  obtain ⟨hk, rfl⟩ := List.getElem?_eq_some_iff.1 h
  unfold nodesK
  rw [List.take_succ_eq_append_getElem hk, List.filterMap_append]
  congr 1
/-- All bytes, in all pairs. -/
def PairsN (ps : List KV) : Prop := ∀ x ∈ ps, AllBytes x.1 ∧ AllBytes x.2
theorem nodesK_ok {ps : List KV} (h : PairsN ps) : ∀ l ∈ nodesK ps, NdOk l := by
  intro l hl
  obtain ⟨q, hq, e⟩ := List.mem_filterMap.1 hl
  exact ndK_ok (h q hq).1 (h q hq).2 e
/-- What a scan of one year's nodes answers, from a world on. -/
def ScansN (w : World) (v : Nat) (y : Int) (ps : List KV) : Prop :=
  ∀ W A k, Below w.heap.size w W → RB W W.heap.size A 5 (keyL 78 [y]) → Calls Tryz.prog 89 #[.pointer (some ⟨v, 0, none⟩), .slice A 5 k] W fun e w' => ∃ A' n' k', e = .returned (.slice A' n' k') ∧ n' ≤ k' ∧ RPairs w' w'.heap.size A' n' ps ∧ Below W.heap.size W w'
/-- A row of nodes that a call built. -/
def NodesR (w w' : World) (u : Value) (l : List Nd) : Prop := NdE.Own 41 w' w.heap.size u l ∧ (∀ x ∈ l, NdOk x) ∧ Below w.heap.size w w'
section
variable {w w' : World} {v : Nat}
set_option maxHeartbeats 6400000 in
theorem treeNodes_of {ps : List KV} {y : Int} (hy : Nd64 y) (hs : ScansN w v y ps) (hl : ps.length ≤ 2147483647) :
    Calls Tryz.prog 58 #[.agg #[.pointer (some ⟨v, 0, none⟩), .int .i64 y]] w fun e w' => ∃ u, e = .returned u ∧ NodesR w w' u (if heldB y then nodesK ps else []) := by
  obtain ⟨w1, hw1⟩ : ∃ w1, w1 = w.alloc (.cells #[.pointer (some ⟨v, 0, none⟩), .int .i64 y] 93) := ⟨_, rfl⟩
  have hb1 : Below w.heap.size w w1 := by rw [hw1]; exact (Below.refl _ _).alloc (Nat.le_refl _) _
  have hs1 : w1.heap.size = w.heap.size + 1 := by rw [hw1]; simp
  have c0 : w1.cell? ⟨w.heap.size, 0, none⟩ = some (.pointer (some ⟨v, 0, none⟩)) := by rw [hw1]; exact cell_of_row _ _ 0 _ _ (0, 0) (heap_alloc_new w _)
  have c1 : w1.cell? ⟨w.heap.size, 1, none⟩ = some (.int .i64 y) := by rw [hw1]; exact cell_of_row _ _ 1 _ _ (0, 0) (heap_alloc_new w _)
  have H1 := heldT_any y
  have HB := Lib.hid hb1
  cases e1 : heldB y with
  | false =>
    rw [e1] at H1
    clear hb1 hs
    go_enter Tryz.func58, Tryz.ntmps58
    go_wp2_with fail
    rw [← hw1]
    clear hw1
    refine (H1 _).mono ?_
    rintro e w' ⟨rfl, rfl⟩
    go_wp2_with fail
    go_ret
    exact ⟨_, rfl, Enc.Own.start _ _ _, (fun x h => by cases h), HB.out⟩
  | true =>
    rw [e1] at H1
    have HC := Lib.hid (show ∀ W, Below w1.heap.size w1 W → W.cell? ⟨w.heap.size, 0, none⟩ = some (.pointer (some ⟨v, 0, none⟩)) ∧ W.cell? ⟨w.heap.size, 1, none⟩ = some (.int .i64 y) from fun W hW =>
      ⟨(hW.cell (p := ⟨w.heap.size, 0, none⟩) (by show w.heap.size < w1.heap.size; omega)).trans c0, (hW.cell (p := ⟨w.heap.size, 1, none⟩) (by show w.heap.size < w1.heap.size; omega)).trans c1⟩)
    have HK := Lib.hid (key_at 78 [y] 1 5 u8_78 (fun z hz => by obtain rfl := List.mem_singleton.1 hz; exact hy) rfl (by omega) rfl)
    have HS := Lib.hid (show ∀ W A k, Below w1.heap.size w1 W → RB W W.heap.size A 5 (keyL 78 [y]) → Calls Tryz.prog 89 #[.pointer (some ⟨v, 0, none⟩), .slice A 5 k] W fun e w' => ∃ A' n' k', e = .returned (.slice A' n' k') ∧ n' ≤ k' ∧ RPairs w' w'.heap.size A' n' ps ∧ Below W.heap.size W w' from fun W A k hW hr => hs W A k (hb1.trans (hW.mono hb1.size)) hr)
    have HL := Lib.hid hl
    clear hb1 hs e1 hy hs1 hl
    go_enter Tryz.func58, Tryz.ntmps58
    go_wp2_with fail
    rw [← hw1]
    clear hw1
    refine (H1 _).mono ?_
    rintro e w' ⟨rfl, rfl⟩
    clear H1 c0 c1
    go_wp2_with fail
    go_region_held3 (fun W => W.cell? ⟨w.heap.size, 0, none⟩ = some (.pointer (some ⟨v, 0, none⟩)) ∧ W.cell? ⟨w.heap.size, 1, none⟩ = some (.int .i64 y))
      (first | exact HC.out _ ((Below.refl _ _).drew) | exact HC.out _ (((Below.refl _ _).alloc (Nat.le_refl _) _).drew) | exact HC.out _ ((Below.refl _ _).drew.alloc (Nat.le_refl _) _) | exact HC.out _ hb2 | exact HC.out _ hb3)
      (first
      | (go_at_call 92; refine Calls.mono (HK.out _ _ ?_) ?_; (first | exact RowN.a (l := [y]) _ _ | exact RowN.a' (l := [y]) _ _ | exact RowN.b (l := [y]) _ _ _ | exact RowN.c (l := [y]) _ _ _ | exact RowN.d (l := [y]) _ _ _); rintro e w2 ⟨A, k, rfl, ko⟩; have ko1 := (by first | exact ko.of_le (w0 := w1) ((Below.refl _ _).alloc (Nat.le_refl _) _).drew | exact ko.of_le (w0 := w1) ((Below.refl _ _).drew.alloc (Nat.le_refl _) _) : OwnB w1 w2 (.slice A 5 k) _); have hb2 := ko1.2; have hrk := ko1.read (tagL_bytes u8_78 _); rw [nYearLen] at hrk; obtain ⟨A9, k9, e9, hk9, hr9⟩ := hrk; injection e9 with q1 q2 q3; subst q1 q3; clear q2; have HCS := Lib.hid (HS.out w2 A k hb2 hr9); clear ko ko1 hr9)
      | (go_at_call 89; refine Calls.mono HCS.out ?_; rintro e w3 ⟨A2, n, k2, rfl, hnk, hp, hb3'⟩; have hb3 := hb2.trans (hb3'.mono hb2.size)))
    have HP := Lib.hid hp
    have HB2 := Lib.hid (HB.out.trans (hb3.mono HB.out.size))
    have hn : n ≤ 2147483647 := by rw [← hp.len]; exact HL.out
    clear hp hb2 hb3 hb3' HC HK HS HL HCS hk9
    go_wp2_with fail
    go_loopw [3, 20] (fun u i wr => ∃ k : Nat, k ≤ n ∧ i = .int .i64 k ∧ Hid (NdE.Own 41 wr w3.heap.size u (nodesK (ps.take k)) ∧ PairsN (ps.take k)) ∧ Hid (Below w3.heap.size w3 wr)) (fun _ i _ => n - (intOf i).toNat)
    case atStart => exact ⟨0, Nat.zero_le _, rfl, Lib.hid ⟨Enc.Own.start _ _ _, fun x hx => by cases hx⟩, Lib.hid (Below.refl _ _)⟩
    case round =>
      obtain ⟨k, hk, rfl, hown, hbw⟩ := hrel
      by_cases hlt : k < n
      · have hlt' : (k : Int) < (n : Int) := by omega
        obtain ⟨bb, off, rfl, hbb, hat⟩ := HP.out.2 (by omega)
        obtain ⟨x, hx⟩ : ∃ x, ps[k]? = some x := ⟨_, List.getElem?_eq_getElem (by rw [HP.out.len]; exact hlt)⟩
        obtain ⟨ka, kn, kc, va, vn, vc, h0, h1, h2, ⟨h3a, h3b⟩, h4, ⟨h5a, h5b⟩⟩ := (hat k x hx).keep hbb (fun b o hbb => hbw.out.cell (p := ⟨b, o, none⟩) hbb)
        have hst := nodesK_step hx
        have hlen : (nodesK (ps.take k)).length ≤ k := Nat.le_trans (nodesK_len _) (by rw [List.length_take]; exact Nat.min_le_left _ _)
        have hPB := Lib.hid (show PairsN (ps.take (k + 1)) from by
          obtain ⟨hk', e⟩ := List.getElem?_eq_some_iff.1 hx
          rw [List.take_succ_eq_append_getElem hk', e]
          intro z hz
          rcases List.mem_append.1 hz with hz | hz
          · exact hown.out.2 z hz
          · obtain rfl := List.mem_singleton.1 hz
            exact ⟨h2.bytes, h4.bytes⟩)
        have hxok := Lib.hid (show ∀ l, ndK x = some l → NdOk l from fun l h => ndK_ok h2.bytes h4.bytes h)
        obtain ⟨w4, hw4⟩ : ∃ w4, w4 = wr.alloc (.cells #[.slice ka kn kc, .slice va vn vc] 111) := ⟨_, rfl⟩
        have hba : Below wr.heap.size wr w4 := by rw [hw4]; exact (Below.refl _ _).alloc (Nat.le_refl _) _
        have q0 : w4.cell? ⟨wr.heap.size, 0, none⟩ = some (.slice ka kn kc) := by rw [hw4]; exact cell_of_row _ _ 0 _ _ (0, 0) (heap_alloc_new wr _)
        have q1 : w4.cell? ⟨wr.heap.size, 1, none⟩ = some (.slice va vn vc) := by rw [hw4]; exact cell_of_row _ _ 1 _ _ (0, 0) (heap_alloc_new wr _)
        have HG := recNodeOf_any ka kn kc va vn vc x w3.heap.size w4 (h2.below (hba.mono hbw.out.size)) (h4.below (hba.mono hbw.out.size)) (Nat.le_trans hbw.out.size hba.size) h3a h5a h3b h5b
        rw [nodeV_w, ndK_some] at HG
        have HG := Lib.hid HG
        have HA := Lib.hid (hbw.out.trans (hba.mono hbw.out.size))
        have HO := Lib.hid (hown.out.1.below hba)
        generalize ndK x = L at HG hst hxok
        have HST := Lib.hid hst
        clear hat hx h2 h4 hown hbw hba hst
        go_wp2_with fail
        rw [← hw4]
        go_wp2_with fail
        refine HG.out.mono ?_
        rintro e w5 ⟨rfl, hb5⟩
        have ha5 := HA.out.trans (hb5.mono HA.out.size)
        have ho5 := HO.out.below hb5
        clear HA HO HG hb5 hw4 q0 q1 h3a h3b h5a h5b h0 h1
        cases L with
        | none =>
          have hX : Below w5.heap.size w5 (w5.alloc (.cells #[.int .i64 0, .int .i64 0, .int .i64 0, .int .i64 0, .int .i64 0, .bool false, .int .i64 0, .int .i64 0, .int .i64 0, .int .i64 0, .int .i64 0, .int .i64 0] 41 (0, 0))) := (Below.refl _ _).alloc (Nat.le_refl _) _
          have HE := Lib.hid (show NdE.Own 41 (w5.alloc (.cells #[.int .i64 0, .int .i64 0, .int .i64 0, .int .i64 0, .int .i64 0, .bool false, .int .i64 0, .int .i64 0, .int .i64 0, .int .i64 0, .int .i64 0, .int .i64 0] 41 (0, 0))) w3.heap.size _ (nodesK (ps.take (k + 1))) ∧ PairsN (ps.take (k + 1)) from ⟨by rw [HST.out]; show NdE.Own _ _ _ _ (_ ++ []); rw [List.append_nil]; exact ho5.below hX, hPB.out⟩)
          have HBX := Lib.hid (ha5.trans (hX.mono ha5.size))
          clear hX ha5 ho5
          simp only [ndW, ndO, Option.getD_none, ndNil]
          go_wp2_with fail
          go_roundw
          case rel => exact ⟨k + 1, by omega, by go_num, HE, HBX⟩
          case measure => simp [intOf]; omega
        | some l =>
          have hok := hxok.out l rfl
          obtain ⟨a0, a1, a2, a3, a4, a5, a6, a7, a8, a9, a10, a11⟩ := l
          have hX : Below w5.heap.size w5 (w5.alloc (.cells #[.int .i64 a0, .int .i64 a1, .int .i64 a2, .int .i64 a3, .int .i64 a4, .bool a5, .int .i64 a6, .int .i64 a7, .int .i64 a8, .int .i64 a9, .int .i64 a10, .int .i64 a11] 41 (0, 0))) := (Below.refl _ _).alloc (Nat.le_refl _) _
          obtain ⟨wx, hwx⟩ : ∃ wx, wx = w5.alloc (.cells #[.int .i64 a0, .int .i64 a1, .int .i64 a2, .int .i64 a3, .int .i64 a4, .bool a5, .int .i64 a6, .int .i64 a7, .int .i64 a8, .int .i64 a9, .int .i64 a10, .int .i64 a11] 41 (0, 0)) := ⟨_, rfl⟩
          have hblk : wx.heap[w5.heap.size]? = some (.cells #[.int .i64 a0, .int .i64 a1, .int .i64 a2, .int .i64 a3, .int .i64 a4, .bool a5, .int .i64 a6, .int .i64 a7, .int .i64 a8, .int .i64 a9, .int .i64 a10, .int .i64 a11] 41 (0, 0)) := by rw [hwx]; exact heap_alloc_new w5 _
          have hsz : wx.heap.size = w5.heap.size + 1 := by rw [hwx]; simp
          rw [← hwx] at hX
          obtain ⟨r0, r1, r2, r3, r4, r5, r6, r7, r8, r9, r10, r11⟩ := node_cells hblk
          have hY : Below wx.heap.size wx (wx.alloc (.cells #[.int .i64 a0, .int .i64 a1, .int .i64 a2, .int .i64 a3, .int .i64 a4, .bool a5, .int .i64 a6, .int .i64 a7, .int .i64 a8, .int .i64 a9, .int .i64 a10, .int .i64 a11] 41 (0, 0))) := (Below.refl _ _).alloc (Nat.le_refl _) _
          have hXY := hX.trans (hY.mono hX.size)
          obtain ⟨v', w6, hrun, hown6, hb6, _⟩ := (ho5.below hXY).append1 NdT (x := ⟨a0, a1, a2, a3, a4, a5, a6, a7, a8, a9, a10, a11⟩) (heap_alloc_new wx _) rfl hok (by omega) (Nat.le_trans ha5.size hXY.size) 22
          rw [hsz] at hrun
          have HE := Lib.hid (show NdE.Own 41 w6 w3.heap.size v' (nodesK (ps.take (k + 1))) ∧ PairsN (ps.take (k + 1)) from ⟨by rw [HST.out]; exact hown6, hPB.out⟩)
          have HBX := Lib.hid ((ha5.trans (hXY.mono ha5.size)).trans hb6)
          subst hwx
          have HRUN := Lib.hid hrun
          clear hX hY hXY ha5 ho5 hrun hown6 hb6 hblk hok hsz
          simp only [ndW, ndO, Option.getD_some]
          go_wp2_with (at_builtin; refine Lib.wpList_append_run _ rfl _ _ _ _ rfl _ _ rfl rfl _ _ HRUN.out ?_)
          go_roundw
          case rel => exact ⟨k + 1, by omega, by go_num, HE, HBX⟩
          case measure => simp [intOf]; omega
      · obtain rfl : k = n := by omega
        have HE := Lib.hid (show NodesR w wr _ (nodesK ps) from by
          have h := hown.out
          rw [List.take_of_length_le (by rw [HP.out.len]; exact Nat.le_refl _)] at h
          exact ⟨h.1.base_le HB2.out.size, nodesK_ok h.2, HB2.out.trans (hbw.out.mono HB2.out.size)⟩)
        clear hown
        go_wp2
        go_ret
        exact ⟨_, rfl, HE.out⟩
set_option maxHeartbeats 800000 in
theorem treeAll_of {ps : List KV} {y : Int} (hy : Nd64 y) (hs : ScansN w v y ps) (hl : ps.length ≤ 2147483647) :
    Calls Tryz.prog 25 #[.pointer (some ⟨v, 0, none⟩), .int .i64 y] w fun e w' => ∃ u, e = .returned u ∧ NodesR w w' u (if heldB y then nodesK ps else []) := by
  have HL := Lib.hid (treeNodes_of hy hs hl)
  generalize (if heldB y then nodesK ps else []) = o at HL ⊢
  clear hs
  go_enter Tryz.func25, Tryz.ntmps25
  go_wp2_with fail
  refine HL.out.mono ?_
  rintro e w2 ⟨u, rfl, h2⟩
  have HE := Lib.hid h2
  clear h2 HL
  go_wp2_with fail
  go_ret
  exact ⟨_, rfl, HE.out⟩
end
end Go.Proofs.YtlcbmobdokicaaaGreat

/-
  The library's IndexFunc and DeleteFunc over nodes, with a closure that says of each node whether it goes; slices.Equal over nodes. Condition: fewer than 2^32 nodes; what the closure says.
-/
namespace Go.Proofs.YtlcbmobdokicaaaGreat
open Go.RowKit Go.Maps
set_option maxRecDepth 100000
set_option linter.unusedVariables false

/-- The function value says P of each node, while no block but g is written. -/
def ChdN (w : World) (g : Nat) (fid : FuncId) (fv : Array Value) (P : Nd → Bool) : Prop := ∀ (W : World) (x : Nd), Touch (fun k => k = g) w W → Calls Tryz.prog fid (#[.agg #[.int .i64 x.y, .int .i64 x.i, .int .i64 x.p, .int .i64 x.f, .int .i64 x.o, .bool x.ab, .int .i64 x.li, .int .i64 x.pr, .int .i64 x.en, .int .i64 x.ex, .int .i64 x.la, .int .i64 x.ca]] ++ fv) W fun e w' => e = .returned (.bool (P x)) ∧ Below W.heap.size W w'
/-- The slice at block g: its cells. -/
def RowNd (w : World) (g n cap : Nat) (vs : List Value) : Prop := ∃ cur : Array Value, w.heap[g]? = some (.cells cur 41 (0, 0)) ∧ n ≤ cap ∧ cap ≤ maxLen ∧ cur.size = cap * 12 ∧ cur.toList.take (n * 12) = vs
/-- The node x at place a of these cells. -/
def NdI (vs : List Value) (a : Nat) (x : Nd) : Prop := ∀ k, k < 12 → vs[a * 12 + k]? = (ndV x)[k]?
section
variable {w w' : World} {g n cap base : Nat} {vs : List Value} {l : List Nd} {P : Nd → Bool}
theorem RowNd.len (h : RowNd w g n cap vs) : vs.length = n * 12 := by
  obtain ⟨cur, _, h1, _, h2, rfl⟩ := h
  rw [List.length_take, Array.length_toList, h2]
  omega
theorem RowNd.lt (h : RowNd w g n cap vs) : g < w.heap.size := by
  obtain ⟨cur, h1, _⟩ := h
  exact (Array.getElem?_eq_some_iff.1 h1).1
theorem RowNd.keep (h : RowNd w g n cap vs) (e : w'.heap[g]? = w.heap[g]?) : RowNd w' g n cap vs := by
  obtain ⟨cur, h1, h2⟩ := h
  exact ⟨cur, e.trans h1, h2⟩
theorem RowNd.cell (h : RowNd w g n cap vs) {k : Nat} {u : Value} (hu : vs[k]? = some u) : w.cell? ⟨g, k, none⟩ = some u := by
  have hl := h.len
  obtain ⟨cur, h1, h2, h3, h4, rfl⟩ := h
  have hk := (List.getElem?_eq_some_iff.1 hu).1
  rw [cell_of_row w g k cur _ (0, 0) h1, ← hu, List.getElem?_take, if_pos (by omega)]
  simp
theorem RowNd.at_ (h : RowNd w g n cap vs) {a : Nat} {x : Nd} (hx : NdI vs a x) : NdE.At w g (a * 12) x := fun k hk => by
  have h1 := hx k hk
  have h2 : (ndV x)[k]? = some ((ndV x)[k]'hk) := List.getElem?_eq_getElem hk
  rw [h2] at h1
  show _ = (ndV x)[k]?
  rw [h2]
  exact h.cell h1
theorem RowNd.frozen (h : RowNd w g n cap vs) (k : Nat) : w.frozen? ⟨g, k, none⟩ = false := by
  obtain ⟨cur, h1, _⟩ := h
  exact frozen_of_row w g k _ _ h1
def setNd (vs : List Value) (i : Nat) (x : Nd) : List Value := ((((((((((((vs.set (i * 12) (.int .i64 x.y)).set (i * 12 + 1) (.int .i64 x.i)).set (i * 12 + 2) (.int .i64 x.p)).set (i * 12 + 3) (.int .i64 x.f)).set (i * 12 + 4) (.int .i64 x.o)).set (i * 12 + 5) (.bool x.ab)).set (i * 12 + 6) (.int .i64 x.li)).set (i * 12 + 7) (.int .i64 x.pr)).set (i * 12 + 8) (.int .i64 x.en)).set (i * 12 + 9) (.int .i64 x.ex)).set (i * 12 + 10) (.int .i64 x.la)).set (i * 12 + 11) (.int .i64 x.ca))
theorem RowNd.set12 (h : RowNd w g n cap vs) {i : Nat} (hi : i < n) (x : Nd) : RowNd ((((((((((((w.setCell ⟨g, i * 12, none⟩ (.int .i64 x.y)).setCell ⟨g, i * 12 + 1, none⟩ (.int .i64 x.i)).setCell ⟨g, i * 12 + 2, none⟩ (.int .i64 x.p)).setCell ⟨g, i * 12 + 3, none⟩ (.int .i64 x.f)).setCell ⟨g, i * 12 + 4, none⟩ (.int .i64 x.o)).setCell ⟨g, i * 12 + 5, none⟩ (.bool x.ab)).setCell ⟨g, i * 12 + 6, none⟩ (.int .i64 x.li)).setCell ⟨g, i * 12 + 7, none⟩ (.int .i64 x.pr)).setCell ⟨g, i * 12 + 8, none⟩ (.int .i64 x.en)).setCell ⟨g, i * 12 + 9, none⟩ (.int .i64 x.ex)).setCell ⟨g, i * 12 + 10, none⟩ (.int .i64 x.la)).setCell ⟨g, i * 12 + 11, none⟩ (.int .i64 x.ca)) g n cap (setNd vs i x) := by
  obtain ⟨cur, h1, h2, h3, h4, rfl⟩ := h
  have e0 := heap_setCell_same _ g (i * 12) _ 41 (.int .i64 x.y) h1
  have e1 := heap_setCell_same _ g (i * 12 + 1) _ 41 (.int .i64 x.i) e0
  have e2 := heap_setCell_same _ g (i * 12 + 2) _ 41 (.int .i64 x.p) e1
  have e3 := heap_setCell_same _ g (i * 12 + 3) _ 41 (.int .i64 x.f) e2
  have e4 := heap_setCell_same _ g (i * 12 + 4) _ 41 (.int .i64 x.o) e3
  have e5 := heap_setCell_same _ g (i * 12 + 5) _ 41 (.bool x.ab) e4
  have e6 := heap_setCell_same _ g (i * 12 + 6) _ 41 (.int .i64 x.li) e5
  have e7 := heap_setCell_same _ g (i * 12 + 7) _ 41 (.int .i64 x.pr) e6
  have e8 := heap_setCell_same _ g (i * 12 + 8) _ 41 (.int .i64 x.en) e7
  have e9 := heap_setCell_same _ g (i * 12 + 9) _ 41 (.int .i64 x.ex) e8
  have e10 := heap_setCell_same _ g (i * 12 + 10) _ 41 (.int .i64 x.la) e9
  have e11 := heap_setCell_same _ g (i * 12 + 11) _ 41 (.int .i64 x.ca) e10
  refine ⟨_, e11, h2, h3, by simpa using h4, ?_⟩
  unfold setNd
  simp only [Array.toList_setIfInBounds, List.take_set]
theorem setNd_len (vs : List Value) (i : Nat) (x : Nd) : (setNd vs i x).length = vs.length := by unfold setNd; simp only [List.length_set]
theorem setNd_other {vs : List Value} {i a : Nat} {x y : Nd} (h : NdI vs a y) (ha : a ≠ i) : NdI (setNd vs i x) a y := fun k hk => by
  have q : ∀ j, j < 12 → i * 12 + j ≠ a * 12 + k := fun j hj => by omega
  have q0 : i * 12 ≠ a * 12 + k := by omega
  have h0 := h k hk
  generalize a * 12 + k = z at q q0 h0 ⊢
  unfold setNd
  rw [List.getElem?_set_ne (q 11 (by decide)), List.getElem?_set_ne (q 10 (by decide)), List.getElem?_set_ne (q 9 (by decide)), List.getElem?_set_ne (q 8 (by decide)), List.getElem?_set_ne (q 7 (by decide)), List.getElem?_set_ne (q 6 (by decide)), List.getElem?_set_ne (q 5 (by decide)), List.getElem?_set_ne (q 4 (by decide)), List.getElem?_set_ne (q 3 (by decide)), List.getElem?_set_ne (q 2 (by decide)), List.getElem?_set_ne (q 1 (by decide)), List.getElem?_set_ne q0]
  exact h0
theorem setNd_same {vs : List Value} {i n : Nat} (x : Nd) (hl : vs.length = n * 12) (hi : i < n) : NdI (setNd vs i x) i x := fun k hk => by
  have hk : k = 0 ∨ k = 1 ∨ k = 2 ∨ k = 3 ∨ k = 4 ∨ k = 5 ∨ k = 6 ∨ k = 7 ∨ k = 8 ∨ k = 9 ∨ k = 10 ∨ k = 11 := by omega
  have hlen : ∀ j, j < 12 → i * 12 + j < vs.length := fun j hj => by omega
  have h0 : i * 12 < vs.length := by omega
  unfold setNd
  generalize i * 12 = z at hlen h0 ⊢
  rcases hk with rfl | rfl | rfl | rfl | rfl | rfl | rfl | rfl | rfl | rfl | rfl | rfl
  · rw [List.getElem?_set_ne (by omega), List.getElem?_set_ne (by omega), List.getElem?_set_ne (by omega), List.getElem?_set_ne (by omega), List.getElem?_set_ne (by omega), List.getElem?_set_ne (by omega), List.getElem?_set_ne (by omega), List.getElem?_set_ne (by omega), List.getElem?_set_ne (by omega), List.getElem?_set_ne (by omega), List.getElem?_set_ne (by omega)]; exact List.getElem?_set_self (by exact h0)
  · rw [List.getElem?_set_ne (by omega), List.getElem?_set_ne (by omega), List.getElem?_set_ne (by omega), List.getElem?_set_ne (by omega), List.getElem?_set_ne (by omega), List.getElem?_set_ne (by omega), List.getElem?_set_ne (by omega), List.getElem?_set_ne (by omega), List.getElem?_set_ne (by omega), List.getElem?_set_ne (by omega)]; exact List.getElem?_set_self (by simp only [List.length_set]; exact hlen 1 (by decide))
  · rw [List.getElem?_set_ne (by omega), List.getElem?_set_ne (by omega), List.getElem?_set_ne (by omega), List.getElem?_set_ne (by omega), List.getElem?_set_ne (by omega), List.getElem?_set_ne (by omega), List.getElem?_set_ne (by omega), List.getElem?_set_ne (by omega), List.getElem?_set_ne (by omega)]; exact List.getElem?_set_self (by simp only [List.length_set]; exact hlen 2 (by decide))
  · rw [List.getElem?_set_ne (by omega), List.getElem?_set_ne (by omega), List.getElem?_set_ne (by omega), List.getElem?_set_ne (by omega), List.getElem?_set_ne (by omega), List.getElem?_set_ne (by omega), List.getElem?_set_ne (by omega), List.getElem?_set_ne (by omega)]; exact List.getElem?_set_self (by simp only [List.length_set]; exact hlen 3 (by decide))
  · rw [List.getElem?_set_ne (by omega), List.getElem?_set_ne (by omega), List.getElem?_set_ne (by omega), List.getElem?_set_ne (by omega), List.getElem?_set_ne (by omega), List.getElem?_set_ne (by omega), List.getElem?_set_ne (by omega)]; exact List.getElem?_set_self (by simp only [List.length_set]; exact hlen 4 (by decide))
  · rw [List.getElem?_set_ne (by omega), List.getElem?_set_ne (by omega), List.getElem?_set_ne (by omega), List.getElem?_set_ne (by omega), List.getElem?_set_ne (by omega), List.getElem?_set_ne (by omega)]; exact List.getElem?_set_self (by simp only [List.length_set]; exact hlen 5 (by decide))
  · rw [List.getElem?_set_ne (by omega), List.getElem?_set_ne (by omega), List.getElem?_set_ne (by omega), List.getElem?_set_ne (by omega), List.getElem?_set_ne (by omega)]; exact List.getElem?_set_self (by simp only [List.length_set]; exact hlen 6 (by decide))
  · rw [List.getElem?_set_ne (by omega), List.getElem?_set_ne (by omega), List.getElem?_set_ne (by omega), List.getElem?_set_ne (by omega)]; exact List.getElem?_set_self (by simp only [List.length_set]; exact hlen 7 (by decide))
  · rw [List.getElem?_set_ne (by omega), List.getElem?_set_ne (by omega), List.getElem?_set_ne (by omega)]; exact List.getElem?_set_self (by simp only [List.length_set]; exact hlen 8 (by decide))
  · rw [List.getElem?_set_ne (by omega), List.getElem?_set_ne (by omega)]; exact List.getElem?_set_self (by simp only [List.length_set]; exact hlen 9 (by decide))
  · rw [List.getElem?_set_ne (by omega)]; exact List.getElem?_set_self (by simp only [List.length_set]; exact hlen 10 (by decide))
  · exact List.getElem?_set_self (by simp only [List.length_set]; exact hlen 11 (by decide))
theorem touch_oneN (w : World) (g o : Nat) (u : Value) : Touch (fun k => k = g) w (w.setCell ⟨g, o, none⟩ u) :=
  ⟨rfl, rfl, rfl, by simp [World.setCell], fun k _ hne => Below.heap_setCell _ _ _ _ (by simpa using hne)⟩
theorem touch_set12 (w : World) (g o : Nat) (x : Nd) : Touch (fun k => k = g) w ((((((((((((w.setCell ⟨g, o, none⟩ (.int .i64 x.y)).setCell ⟨g, o + 1, none⟩ (.int .i64 x.i)).setCell ⟨g, o + 2, none⟩ (.int .i64 x.p)).setCell ⟨g, o + 3, none⟩ (.int .i64 x.f)).setCell ⟨g, o + 4, none⟩ (.int .i64 x.o)).setCell ⟨g, o + 5, none⟩ (.bool x.ab)).setCell ⟨g, o + 6, none⟩ (.int .i64 x.li)).setCell ⟨g, o + 7, none⟩ (.int .i64 x.pr)).setCell ⟨g, o + 8, none⟩ (.int .i64 x.en)).setCell ⟨g, o + 9, none⟩ (.int .i64 x.ex)).setCell ⟨g, o + 10, none⟩ (.int .i64 x.la)).setCell ⟨g, o + 11, none⟩ (.int .i64 x.ca)) :=
  (((((((((((touch_oneN _ _ _ _).trans (touch_oneN _ _ _ _)).trans (touch_oneN _ _ _ _)).trans (touch_oneN _ _ _ _)).trans (touch_oneN _ _ _ _)).trans (touch_oneN _ _ _ _)).trans (touch_oneN _ _ _ _)).trans (touch_oneN _ _ _ _)).trans (touch_oneN _ _ _ _)).trans (touch_oneN _ _ _ _)).trans (touch_oneN _ _ _ _)).trans (touch_oneN _ _ _ _)

set_option maxHeartbeats 3200000 in
theorem idxN_any {fid : FuncId} {fv : Array Value} (efn : ∀ args w, (callFunc fid args).run Tryz.prog w = .ok (.enter fid args) w) (hrow : RowNd w g n cap vs) (hl : l.length = n) (hvs : ∀ a x, l[a]? = some x → NdI vs a x) (hP : ChdN w g fid fv P) (hn : n ≤ 4294967296) :
    Calls Tryz.prog 59 #[.slice (some ⟨g, 0, none⟩) n cap, .func (.func fid) #[] fv] w fun e w' =>
      ((∃ i x, l[i]? = some x ∧ P x = true ∧ (∀ (a : Nat) (y : Nd), a < i → l[a]? = some y → P y = false) ∧ e = .returned (.int .i64 (i : Nat))) ∨ ((∀ (a : Nat) (y : Nd), l[a]? = some y → P y = false) ∧ e = .returned (.int .i64 (-1)))) ∧ Below w.heap.size w w' := by
  have HR := Lib.hid hrow
  have HV := Lib.hid hvs
  have HP := Lib.hid hP
  have HL := Lib.hid hl
  clear hrow hvs hP hl
  go_enter Tryz.func59, Tryz.ntmps59
  go_wp2_with fail
  go_loopw [8] (fun i wr => ∃ j : Nat, j ≤ n ∧ i = .int .i64 j ∧ Hid ((∀ (a : Nat) (y : Nd), a < j → l[a]? = some y → P y = false) ∧ Below w.heap.size w wr)) (fun i _ => n - (intOf i).toNat)
  case atStart => exact ⟨0, Nat.zero_le _, rfl, Lib.hid ⟨fun a y h => absurd h (Nat.not_lt_zero _), Below.refl _ _⟩⟩
  case round =>
    obtain ⟨j, hj, rfl, HM⟩ := hrel
    by_cases hlt : j < n
    · obtain ⟨hno, hb⟩ := HM.out
      obtain ⟨x, hx⟩ : ∃ x, l[j]? = some x := ⟨_, List.getElem?_eq_getElem (by rw [HL.out]; exact hlt)⟩
      have ht : Touch (fun k => k = g) w wr := Touch.of_below hb
      have hr1 := HR.out.keep (w' := wr) (hb.block g HR.out.lt)
      obtain ⟨c0, c1, c2, c3, c4, c5, c6, c7, c8, c9, c10, c11⟩ := ndAt (hr1.at_ (HV.out j x hx))
      have HC := Lib.hid (HP.out wr x ht)
      have hj64 : (j : Int) < (n : Int) := by omega
      cases hpx : P x with
      | true =>
        have HFIN := Lib.hid (And.intro hx (And.intro hpx (And.intro hno hb)))
        rw [hpx] at HC
        obtain ⟨a0, a1, a2, a3, a4, a5, a6, a7, a8, a9, a10, a11⟩ := x
        simp only at c0 c1 c2 c3 c4 c5 c6 c7 c8 c9 c10 c11
        clear hno hb hx ht hr1 hpx
        go_wp2_with fail
        refine HC.out.mono ?_
        rintro e w2 ⟨rfl, hb2⟩
        have HB2 := Lib.hid hb2
        clear hb2
        go_wp2
        go_ret
        obtain ⟨f1, f2, f3, f4⟩ := HFIN.out
        exact ⟨.inl ⟨j, _, f1, f2, f3, rfl⟩, f4.trans (HB2.out.mono f4.size)⟩
      | false =>
        rw [hpx] at HC
        have HFIN := Lib.hid (And.intro hx (And.intro hpx (And.intro hno hb)))
        obtain ⟨a0, a1, a2, a3, a4, a5, a6, a7, a8, a9, a10, a11⟩ := x
        simp only at c0 c1 c2 c3 c4 c5 c6 c7 c8 c9 c10 c11
        clear hno hb hx ht hr1 hpx
        go_wp2_with fail
        refine HC.out.mono ?_
        rintro e w2 ⟨rfl, hb2⟩
        have HN := Lib.hid (show (∀ (a : Nat) (y : Nd), a < j + 1 → l[a]? = some y → P y = false) ∧ Below w.heap.size w w2 from by
          obtain ⟨f1, f2, f3, f4⟩ := HFIN.out
          refine ⟨fun a y ha hy => ?_, f4.trans (hb2.mono f4.size)⟩
          rcases Nat.lt_or_ge a j with h | h
          · exact f3 a y h hy
          · obtain rfl : a = j := by omega
            rw [f1] at hy
            obtain rfl := Option.some.inj hy
            exact f2)
        clear hb2 HFIN
        go_wp2
        go_roundw
        case rel => exact ⟨j + 1, by omega, by go_num, HN⟩
        case measure => simp [intOf]; omega
    · obtain rfl : j = n := by omega
      obtain ⟨hno, hb⟩ := HM.out
      have HFIN := Lib.hid (And.intro (fun (a : Nat) (y : Nd) (hy : l[a]? = some y) => hno a y (by have := (List.getElem?_eq_some_iff.1 hy).1; rw [HL.out] at this; exact this) hy) hb)
      clear hno hb
      go_wp2
      go_ret
      exact ⟨.inr ⟨HFIN.out.1, rfl⟩, HFIN.out.2⟩

def stayN (P : Nd → Bool) (l : List Nd) (j : Nat) : List Nd := (l.take j).filter fun x => !P x
theorem stayN_succ {P : Nd → Bool} {l : List Nd} {j : Nat} {x : Nd} (hx : l[j]? = some x) : stayN P l (j + 1) = if P x then stayN P l j else stayN P l j ++ [x] := by
  obtain ⟨hi, rfl⟩ := List.getElem?_eq_some_iff.1 hx
  unfold stayN
  rw [List.take_succ_eq_append_getElem hi, List.filter_append]
  cases h : P l[j] <;> simp [h]
/-- Where DeleteFunc stands: the first j nodes were looked at. -/
def DelN (w wr : World) (g n cap : Nat) (P : Nd → Bool) (l : List Nd) (j : Nat) : Prop :=
  ∃ vs, RowNd wr g n cap vs ∧ (∀ a x, (stayN P l j)[a]? = some x → NdI vs a x) ∧ (∀ a x, j ≤ a → l[a]? = some x → NdI vs a x) ∧ Touch (fun k => k = g) w wr
theorem DelN.touch {wr wr' : World} {j : Nat} (h : DelN w wr g n cap P l j) (hb : Below wr.heap.size wr wr') : DelN w wr' g n cap P l j := by
  obtain ⟨vs, h1, h2, h3, h4⟩ := h
  exact ⟨vs, h1.keep (hb.block g h1.lt), h2, h3, h4.trans (Touch.of_below hb)⟩
theorem DelN.drop {wr : World} {j : Nat} {x : Nd} (h : DelN w wr g n cap P l j) (hx : l[j]? = some x) (hp : P x = true) : DelN w wr g n cap P l (j + 1) := by
  obtain ⟨vs, h1, h2, h3, h4⟩ := h
  refine ⟨vs, h1, fun a y hy => h2 a y ?_, fun a y ha hy => h3 a y (by omega) hy, h4⟩
  rw [stayN_succ hx, if_pos hp] at hy
  exact hy
theorem DelN.move {wr : World} {j i : Nat} {x : Nd} (h : DelN w wr g n cap P l j) (hx : l[j]? = some x) (hp : P x = false) (hi : (stayN P l j).length = i) (hij : i < j) (hjn : j < n) :
    DelN w ((((((((((((wr.setCell ⟨g, i * 12, none⟩ (.int .i64 x.y)).setCell ⟨g, i * 12 + 1, none⟩ (.int .i64 x.i)).setCell ⟨g, i * 12 + 2, none⟩ (.int .i64 x.p)).setCell ⟨g, i * 12 + 3, none⟩ (.int .i64 x.f)).setCell ⟨g, i * 12 + 4, none⟩ (.int .i64 x.o)).setCell ⟨g, i * 12 + 5, none⟩ (.bool x.ab)).setCell ⟨g, i * 12 + 6, none⟩ (.int .i64 x.li)).setCell ⟨g, i * 12 + 7, none⟩ (.int .i64 x.pr)).setCell ⟨g, i * 12 + 8, none⟩ (.int .i64 x.en)).setCell ⟨g, i * 12 + 9, none⟩ (.int .i64 x.ex)).setCell ⟨g, i * 12 + 10, none⟩ (.int .i64 x.la)).setCell ⟨g, i * 12 + 11, none⟩ (.int .i64 x.ca)) g n cap P l (j + 1) := by
  obtain ⟨vs, h1, h2, h3, h4⟩ := h
  have hlen := h1.len
  refine ⟨_, h1.set12 (by omega) x, fun a y hy => ?_, fun a y ha hy => setNd_other (h3 a y (by omega) hy) (by omega), h4.trans (touch_set12 wr g (i * 12) x)⟩
  rw [stayN_succ hx, if_neg (by rw [hp]; decide)] at hy
  rcases Nat.lt_or_ge a i with h' | h'
  · rw [List.getElem?_append_left (by omega)] at hy
    exact setNd_other (h2 a y hy) (by omega)
  · rw [List.getElem?_append_right (by omega)] at hy
    have ha0 : a - (stayN P l j).length = 0 := by
      have := (List.getElem?_eq_some_iff.1 hy).1
      simp at this
      omega
    rw [ha0] at hy
    obtain rfl : x = y := by simpa using hy
    obtain rfl : a = i := by omega
    exact setNd_same x hlen (by omega)
theorem RowNd.clear_ (h : RowNd w g n cap vs) {i k : Nat} (hi : i < n) (ty : TypeId) :
    ∃ w', (Builtin.clear_ #[22] ty #[.slice (some ⟨g, i * 12, none⟩) (n - i) k]).run Tryz.prog w = .ok (.tuple #[]) w' ∧ (∃ vs', RowNd w' g n cap vs' ∧ ∀ j, j < i * 12 → vs'[j]? = vs[j]?) ∧ Touch (fun k => k = g) w w' := by
  obtain ⟨cur, h1, h2, h3, h4, rfl⟩ := h
  have hz : (zeroValue 41).run Tryz.prog w = .ok (.agg #[.int .i64 0, .int .i64 0, .int .i64 0, .int .i64 0, .int .i64 0, .bool false, .int .i64 0, .int .i64 0, .int .i64 0, .int .i64 0, .int .i64 0, .int .i64 0]) w := by kernel_rfl
  have hzl : (Builtin.zeroCells (Value.agg #[.int .i64 0, .int .i64 0, .int .i64 0, .int .i64 0, .int .i64 0, .bool false, .int .i64 0, .int .i64 0, .int .i64 0, .int .i64 0, .int .i64 0, .int .i64 0]).cells (n - i)).toList.length = (n - i) * 12 := by
    rw [Array.length_toList, size_zeroCells]
    rfl
  have hone : ∀ v ∈ (Builtin.zeroCells (Value.agg #[.int .i64 0, .int .i64 0, .int .i64 0, .int .i64 0, .int .i64 0, .bool false, .int .i64 0, .int .i64 0, .int .i64 0, .int .i64 0, .int .i64 0, .int .i64 0]).cells (n - i)).toList, v.oneCell' = true := by
    intro v hv
    have hv' : v ∈ ((Array.range ((n - i) * 12)).map fun k => (#[.int .i64 0, .int .i64 0, .int .i64 0, .int .i64 0, .int .i64 0, .bool false, .int .i64 0, .int .i64 0, .int .i64 0, .int .i64 0, .int .i64 0, .int .i64 0] : Array Value)[k % 12]!).toList := hv
    rw [Array.toList_map] at hv'
    obtain ⟨k, _, rfl⟩ := List.mem_map.1 hv'
    have : k % 12 = 0 ∨ k % 12 = 1 ∨ k % 12 = 2 ∨ k % 12 = 3 ∨ k % 12 = 4 ∨ k % 12 = 5 ∨ k % 12 = 6 ∨ k % 12 = 7 ∨ k % 12 = 8 ∨ k % 12 = 9 ∨ k % 12 = 10 ∨ k % 12 = 11 := by omega
    rcases this with e | e | e | e | e | e | e | e | e | e | e | e <;> rw [e] <;> rfl
  have hst := run_storeCells_at Tryz.prog g (i * 12) 41 _ 0 cur w h1 (by rw [hzl]; omega) hone
  have hrun : (Builtin.clear_ #[22] ty #[.slice (some ⟨g, i * 12, none⟩) (n - i) k]).run Tryz.prog w = .ok (.tuple #[]) (w.setRow g (cur.toList.take (i * 12 + 0) ++ (Builtin.zeroCells (Value.agg #[.int .i64 0, .int .i64 0, .int .i64 0, .int .i64 0, .int .i64 0, .bool false, .int .i64 0, .int .i64 0, .int .i64 0, .int .i64 0, .int .i64 0, .int .i64 0]).cells (n - i)).toList ++ cur.toList.drop (i * 12 + 0 + (Builtin.zeroCells (Value.agg #[.int .i64 0, .int .i64 0, .int .i64 0, .int .i64 0, .int .i64 0, .bool false, .int .i64 0, .int .i64 0, .int .i64 0, .int .i64 0, .int .i64 0, .int .i64 0]).cells (n - i)).toList.length)).toArray) := by
    obtain ⟨k', hk'⟩ : ∃ k', n - i = k' + 1 := ⟨n - i - 1, by omega⟩
    rw [hk'] at hst ⊢
    simp only [Builtin.clear_]
    simp only [List.getElem?_toArray, List.getElem?_cons_zero]
    simp only [Sem.run_bind, run_underlying Tryz.underlying22, hz, Result.andThen]
    rw [hst]
    rfl
  generalize (Builtin.zeroCells (Value.agg #[.int .i64 0, .int .i64 0, .int .i64 0, .int .i64 0, .int .i64 0, .bool false, .int .i64 0, .int .i64 0, .int .i64 0, .int .i64 0, .int .i64 0, .int .i64 0]).cells (n - i)).toList = C at hrun hzl
  refine ⟨_, hrun, ⟨_, ⟨_, setRow_heap w g cur _ 41 _ h1, h2, h3, ?_, rfl⟩, fun j hj => ?_⟩, ⟨rfl, rfl, rfl, by simp [World.setRow], fun k hk hne => setRow_other w g k _ (fun e => hne e)⟩⟩
  · rw [List.size_toArray, List.length_append, List.length_append, hzl, List.length_take, List.length_drop, Array.length_toList]
    omega
  · rw [List.append_assoc, List.getElem?_take, if_pos (by omega), List.getElem?_append_left (by rw [List.length_take, Array.length_toList]; omega), List.getElem?_take, if_pos (by omega), List.getElem?_take, if_pos (by omega)]
theorem own_rowNd {v : Value} (h : NdE.Own 41 w base (.slice (some ⟨g, 0, none⟩) n cap) l) : l.length = n ∧ base ≤ g ∧ RowNd w g n cap (NdE.all l) := by
  rcases h.2 with ⟨e, _⟩ | ⟨g', cap', cur, e, hb, hg, hc, hm, hs, ht⟩
  · cases e
  · cases e
    exact ⟨rfl, hb, cur, hg, hc, hm, hs, ht⟩
theorem rowNd_own (h : RowNd w g n cap vs) {k : Nat} (hk : l.length = k) (hkn : k ≤ n) (hb : base ≤ g) (hvs : ∀ a x, l[a]? = some x → NdI vs a x) : NdE.Own 41 w base (.slice (some ⟨g, 0, none⟩) k cap) l := by
  have hlen := h.len
  obtain ⟨cur, h1, h2, h3, h4, rfl⟩ := h
  subst hk
  refine ⟨Enc.all_length l, .inr ⟨g, cap, cur, rfl, hb, h1, Nat.le_trans hkn h2, h3, h4, ?_⟩⟩
  apply List.ext_getElem?
  intro j
  show (cur.toList.take (l.length * 12))[j]? = _
  rcases Nat.lt_or_ge j (l.length * 12) with hj | hj
  · obtain ⟨x, hx⟩ : ∃ x, l[j / 12]? = some x := ⟨_, List.getElem?_eq_getElem (by omega)⟩
    have e1 := hvs (j / 12) x hx (j % 12) (by omega)
    have e2 := Enc.all_at (E := NdE) hx (j % 12) (show j % 12 < 12 by omega)
    rw [show j / 12 * NdE.K + j % 12 = j by show j / 12 * 12 + j % 12 = j; omega] at e2
    rw [show j / 12 * 12 + j % 12 = j by omega] at e1
    rw [e2, List.getElem?_take, if_pos hj]
    rw [List.getElem?_take, if_pos (by omega)] at e1
    exact e1
  · rw [List.getElem?_eq_none (by rw [List.length_take]; omega), List.getElem?_eq_none (by rw [Enc.all_length]; exact hj)]
end

section
variable {w w' : World} {A A' : Option Addr} {n m k B B' : Nat} {l l' : List Nd}
theorem below_drewNd {B : Nat} {w w' : World} (h : Below B w w') : ∀ n, Below B w (w'.drewN n) := fun n => ⟨h.os, h.tape, h.output, h.size, h.block⟩
end
end Go.Proofs.YtlcbmobdokicaaaGreat

/-
  Contracts of tree over a view in memory: the path above a node, the nodes below one. Conditions: which numbers are ints; what a scan comes to.
-/
namespace Go.Proofs.YtlcbmobdokicaaaGreat
open Go.RowKit Go.Maps
set_option maxRecDepth 100000
set_option linter.unusedVariables false

def sliceLen : Value → Nat
  | .slice _ n _ => n
  | _ => 0
theorem pathN_none {S : VS} {y i : Int} {k : Nat} (h : nodeAt S y i = none) : pathN S y (k + 1) i = [] := by unfold pathN; rw [h]
theorem pathN_zero {S : VS} {y i : Int} {k : Nat} {n : Nd} (h : nodeAt S y i = some n) (h0 : n.p = 0) : pathN S y (k + 1) i = [n] := by unfold pathN; rw [h]; simp only [h0, if_true]
theorem pathN_more {S : VS} {y i : Int} {k : Nat} {n : Nd} (h : nodeAt S y i = some n) (h0 : n.p ≠ 0) : pathN S y (k + 1) i = n :: pathN S y k n.p := by
  conv => lhs; unfold pathN
  rw [h]
  simp only [h0, if_false]
section
variable {w w' : World} {X : Nat → Prop} {v m c : Nat} {S : VS}
set_option maxHeartbeats 6400000 in
theorem budgetPath_any (h : ViewAt w X v m c S) (y i : Int) (hy : Nd64 y) (hi : Nd64 i) :
    Calls Tryz.prog 167 #[.agg #[.pointer (some ⟨v, 0, none⟩), .int .i64 y], .int .i64 i] w fun e w' => ∃ u, e = .returned u ∧ NodesR w w' u (pathN S y 8 i) := by
  obtain ⟨w1, hw1⟩ : ∃ w1, w1 = w.alloc (.cells #[.pointer (some ⟨v, 0, none⟩), .int .i64 y] 93) := ⟨_, rfl⟩
  have hb1 : Below w.heap.size w w1 := by rw [hw1]; exact (Below.refl _ _).alloc (Nat.le_refl _) _
  have hs1 : w1.heap.size = w.heap.size + 1 := by rw [hw1]; simp
  have c0 : w1.cell? ⟨w.heap.size, 0, none⟩ = some (.pointer (some ⟨v, 0, none⟩)) := by rw [hw1]; exact cell_of_row _ _ 0 _ _ (0, 0) (heap_alloc_new w _)
  have c1 : w1.cell? ⟨w.heap.size, 1, none⟩ = some (.int .i64 y) := by rw [hw1]; exact cell_of_row _ _ 1 _ _ (0, 0) (heap_alloc_new w _)
  have HB := Lib.hid hb1
  have HC := Lib.hid (show ∀ W, Below w1.heap.size w1 W → W.cell? ⟨w.heap.size, 0, none⟩ = some (.pointer (some ⟨v, 0, none⟩)) ∧ W.cell? ⟨w.heap.size, 1, none⟩ = some (.int .i64 y) from fun W hW =>
    ⟨(hW.cell (p := ⟨w.heap.size, 0, none⟩) (by show w.heap.size < w1.heap.size; omega)).trans c0, (hW.cell (p := ⟨w.heap.size, 1, none⟩) (by show w.heap.size < w1.heap.size; omega)).trans c1⟩)
  have HV := Lib.hid (show ∀ W, Below w1.heap.size w1 W → ViewAt W X v m c S from fun W hW => h.below (hb1.trans (hW.mono hb1.size)))
  have HY := Lib.hid hy
  have HS1 := Lib.hid hs1
  have HI := Lib.hid hi
  clear hb1 h hs1 c0 c1 hy hi
  go_enter Tryz.func167, Tryz.ntmps167
  go_wp2_with fail
  rw [← hw1]
  clear hw1
  go_step3
  go_wp2_with fail
  go_step3
  go_wp2_with fail
  go_loopw [1, 5] (fun iv u wr => ∃ (j : Int) (l : List Nd) (A : Option Addr) (k : Nat), iv = .int .i64 j ∧ u = .slice A l.length k ∧ l.length ≤ 8 ∧ Hid (NdE.Own 41 wr w1.heap.size (.slice A l.length k) l ∧ (∀ x ∈ l, NdOk x) ∧ Nd64 j ∧ pathN S y 8 i = l ++ pathN S y (8 - l.length) j) ∧ Hid (Below w1.heap.size w1 wr)) (fun _ u _ => 8 - sliceLen u)
  case atStart => exact ⟨i, [], none, 0, rfl, rfl, by simp, Lib.hid ⟨Enc.Own.start _ _ _, (fun x hx => by cases hx), HI.out, rfl⟩, Lib.hid (Below.refl _ _)⟩
  case round =>
    obtain ⟨j, l, A, k, rfl, rfl, hl8, hown, hbw⟩ := hrel
    obtain ⟨ho, hlok, hj, hp⟩ := hown.out
    by_cases hlt : l.length < 8
    · have hlt' : (l.length : Int) < 8 := by omega
      obtain ⟨d0, d1⟩ := HC.out wr hbw.out
      obtain ⟨k8, hk8⟩ : ∃ k8, 8 - l.length = k8 + 1 := ⟨7 - l.length, by omega⟩
      have HG := Lib.hid (treeNode_any (HV.out wr hbw.out) y j HY.out hj)
      rw [hk8] at hp
      have HPN := Lib.hid (fun (q : nodeAt S y j = none) => show pathN S y 8 i = l from by rw [hp, pathN_none q, List.append_nil])
      have HPZ := Lib.hid (fun (n : Nd) (q : nodeAt S y j = some n) (q0 : n.p = 0) => show pathN S y 8 i = l ++ [n] from by rw [hp, pathN_zero q q0])
      have HPM := Lib.hid (fun (n : Nd) (q : nodeAt S y j = some n) (q0 : n.p ≠ 0) => show pathN S y 8 i = (l ++ [n]) ++ pathN S y (8 - (l ++ [n]).length) n.p from by
        rw [hp, pathN_more q q0, List.append_assoc, List.length_append, List.length_singleton, show 8 - (l.length + 1) = k8 by omega]; rfl)
      have HOW := Lib.hid (And.intro ho hlok)
      have hBW := hbw.out
      generalize nodeAt S y j = o at HG HPN HPZ HPM
      clear ho hlok hp hown hk8
      go_wp2_with fail
      refine HG.out.mono ?_
      rintro e w5 ⟨rfl, hno, hb5⟩
      have ha5 := hBW.trans (hb5.mono hBW.size)
      have ho5 := HOW.out.1.below hb5
      cases o with
      | none =>
        have hX : Below w5.heap.size w5 (w5.alloc (.cells #[.int .i64 0, .int .i64 0, .int .i64 0, .int .i64 0, .int .i64 0, .bool false, .int .i64 0, .int .i64 0, .int .i64 0, .int .i64 0, .int .i64 0, .int .i64 0] 41 (0, 0))) := (Below.refl _ _).alloc (Nat.le_refl _) _
        have HE := Lib.hid (show NodesR w (w5.alloc (.cells #[.int .i64 0, .int .i64 0, .int .i64 0, .int .i64 0, .int .i64 0, .bool false, .int .i64 0, .int .i64 0, .int .i64 0, .int .i64 0, .int .i64 0, .int .i64 0] 41 (0, 0))) (.slice A l.length k) (pathN S y 8 i) from by
          rw [HPN.out rfl]
          exact ⟨(ho5.below hX).base_le (by have := HS1.out; omega), HOW.out.2, HB.out.trans ((ha5.trans (hX.mono ha5.size)).mono HB.out.size)⟩)
        clear hX ha5 ho5 HPN HPZ HPM HG hno hb5 hbw hBW
        simp only [ndW, ndO, Option.getD_none, ndNil]
        go_wp2_with fail
        rw [Exit.noGoto_ret]
        go_ret
        exact ⟨_, rfl, HE.out⟩
      | some n =>
        have hok := hno n rfl
        have hcl : NdOk n := hok
        obtain ⟨a0, a1, a2, a3, a4, a5, a6, a7, a8, a9, a10, a11⟩ := n
        have hX : Below w5.heap.size w5 (w5.alloc (.cells #[.int .i64 a0, .int .i64 a1, .int .i64 a2, .int .i64 a3, .int .i64 a4, .bool a5, .int .i64 a6, .int .i64 a7, .int .i64 a8, .int .i64 a9, .int .i64 a10, .int .i64 a11] 41 (0, 0))) := (Below.refl _ _).alloc (Nat.le_refl _) _
        obtain ⟨wx, hwx⟩ : ∃ wx, wx = w5.alloc (.cells #[.int .i64 a0, .int .i64 a1, .int .i64 a2, .int .i64 a3, .int .i64 a4, .bool a5, .int .i64 a6, .int .i64 a7, .int .i64 a8, .int .i64 a9, .int .i64 a10, .int .i64 a11] 41 (0, 0)) := ⟨_, rfl⟩
        have hblk : wx.heap[w5.heap.size]? = some (.cells #[.int .i64 a0, .int .i64 a1, .int .i64 a2, .int .i64 a3, .int .i64 a4, .bool a5, .int .i64 a6, .int .i64 a7, .int .i64 a8, .int .i64 a9, .int .i64 a10, .int .i64 a11] 41 (0, 0)) := by rw [hwx]; exact heap_alloc_new w5 _
        have hsz : wx.heap.size = w5.heap.size + 1 := by rw [hwx]; simp
        rw [← hwx] at hX
        obtain ⟨r0, r1, r2, r3, r4, r5, r6, r7, r8, r9, r10, r11⟩ := node_cells hblk
        have hY : Below wx.heap.size wx (wx.alloc (.cells #[.int .i64 a0, .int .i64 a1, .int .i64 a2, .int .i64 a3, .int .i64 a4, .bool a5, .int .i64 a6, .int .i64 a7, .int .i64 a8, .int .i64 a9, .int .i64 a10, .int .i64 a11] 41 (0, 0))) := (Below.refl _ _).alloc (Nat.le_refl _) _
        have hXY := hX.trans (hY.mono hX.size)
        obtain ⟨v', w6, hrun, hown6, hb6, hg, hgr⟩ := (ho5.below hXY).append1 NdT (x := ⟨a0, a1, a2, a3, a4, a5, a6, a7, a8, a9, a10, a11⟩) (heap_alloc_new wx _) rfl hok (by omega) (Nat.le_trans ha5.size hXY.size) 22
        rw [hsz] at hrun
        obtain ⟨A6, k6, rfl, hk6⟩ := hown6.shape
        have hlen6 : (l ++ [(⟨a0, a1, a2, a3, a4, a5, a6, a7, a8, a9, a10, a11⟩ : Nd)]).length = l.length + 1 := by rw [List.length_append]; rfl
        rw [hlen6] at hrun hown6
        have HBX := Lib.hid ((ha5.trans (hXY.mono ha5.size)).trans hb6)
        have hcell2 : w6.cell? ⟨w5.heap.size, 2, none⟩ = some (.int .i64 a2) := by
          have hno : (Value.slice A l.length k).ownBlock ≠ some w5.heap.size := fun q => Nat.lt_irrefl _ ((ho5.at_ _ q).2)
          have hb := (hg.block w5.heap.size (by show w5.heap.size < (wx.alloc _).heap.size; have := hY.size; omega) (fun q => hno q.symm)).trans (hY.block _ (by omega))
          exact (World.cell?_of_block (a := ⟨w5.heap.size, 2, none⟩) hb).trans r2
        have hl' : ∀ x ∈ l ++ [(⟨a0, a1, a2, a3, a4, a5, a6, a7, a8, a9, a10, a11⟩ : Nd)], NdOk x := fun x hx => by
          rcases List.mem_append.1 hx with hx | hx
          · exact HOW.out.2 x hx
          · obtain rfl := List.mem_singleton.1 hx
            exact hok
        have HL' := Lib.hid hl'
        have HO6 := Lib.hid hown6
        have HA2 := Lib.hid (show Nd64 a2 from hcl _ (by simp))
        by_cases h0 : a2 = 0
        · have h0' : (a2 == 0) = true := by simp [h0]
          have HE := Lib.hid (show NodesR w w6 (.slice A6 (l.length + 1) k6) (pathN S y 8 i) from by
            rw [HPZ.out _ rfl h0]
            have q := HO6.out
            exact ⟨q.base_le (by have := HS1.out; omega), HL'.out, HB.out.trans (HBX.out.mono HB.out.size)⟩)
          have HRUN := Lib.hid hrun
          subst hwx
          clear hX hY hXY ha5 ho5 HPN HPZ HPM HG hno hb5 hbw hBW hrun hown6 hb6 hblk hok hcl hsz hl' hcell2 hgr hk6 hlen6 h0
          simp only [ndW, ndO, Option.getD_some]
          go_wp2_with (at_builtin; refine Lib.wpList_append_run _ rfl _ _ _ _ rfl _ _ rfl rfl _ _ HRUN.out ?_)
          rw [Exit.noGoto_ret]
          go_ret
          exact ⟨_, rfl, HE.out⟩
        · have h0' : (a2 == 0) = false := by simp [h0]
          have HE := Lib.hid (show NdE.Own 41 w6 w1.heap.size (.slice A6 (l ++ [(⟨a0, a1, a2, a3, a4, a5, a6, a7, a8, a9, a10, a11⟩ : Nd)]).length k6) (l ++ [⟨a0, a1, a2, a3, a4, a5, a6, a7, a8, a9, a10, a11⟩]) ∧ (∀ x ∈ l ++ [(⟨a0, a1, a2, a3, a4, a5, a6, a7, a8, a9, a10, a11⟩ : Nd)], NdOk x) ∧ Nd64 a2 ∧ pathN S y 8 i = (l ++ [⟨a0, a1, a2, a3, a4, a5, a6, a7, a8, a9, a10, a11⟩]) ++ pathN S y (8 - (l ++ [(⟨a0, a1, a2, a3, a4, a5, a6, a7, a8, a9, a10, a11⟩ : Nd)]).length) a2 from
            ⟨by rw [hlen6]; exact HO6.out, HL'.out, HA2.out, HPM.out _ rfl h0⟩)
          have HLEN := Lib.hid hlen6
          have HRUN := Lib.hid hrun
          subst hwx
          clear hX hY hXY ha5 ho5 HPN HPZ HPM HG hno hb5 hbw hBW hrun hown6 hb6 hblk hok hcl hsz hl' hgr hk6 hlen6 h0
          simp only [ndW, ndO, Option.getD_some]
          go_wp2_with (at_builtin; refine Lib.wpList_append_run _ rfl _ _ _ _ rfl _ _ rfl rfl _ _ HRUN.out ?_)
          go_roundw
          case rel => exact ⟨a2, _, A6, k6, rfl, by rw [HLEN.out], by rw [HLEN.out]; omega, HE, HBX⟩
          case measure => simp [sliceLen]; omega
    · have hl : l.length = 8 := by omega
      have HE := Lib.hid (show NodesR w wr (.slice A l.length k) (pathN S y 8 i) from by
        rw [hp, hl]
        show NodesR _ _ _ (l ++ pathN S y 0 j)
        unfold pathN
        rw [List.append_nil, ← hl]
        exact ⟨ho.base_le (by have := HS1.out; omega), hlok, HB.out.trans (hbw.out.mono HB.out.size)⟩)
      clear ho hlok hp hown
      go_wp2
      rw [Exit.noGoto_ret]
      go_ret
      exact ⟨_, rfl, HE.out⟩
set_option maxHeartbeats 800000 in
theorem treePath_any (h : ViewAt w X v m c S) (y i : Int) (hy : Nd64 y) (hi : Nd64 i) :
    Calls Tryz.prog 145 #[.pointer (some ⟨v, 0, none⟩), .int .i64 y, .int .i64 i] w fun e w' => ∃ u, e = .returned u ∧ NodesR w w' u (pathN S y 8 i) := by
  have HL := Lib.hid (budgetPath_any h y i hy hi)
  generalize pathN S y 8 i = o at HL ⊢
  clear h
  go_enter Tryz.func145, Tryz.ntmps145
  go_wp2_with fail
  refine HL.out.mono ?_
  rintro e w2 ⟨u, rfl, h2⟩
  have HE := Lib.hid h2
  clear h2 HL
  go_wp2_with fail
  go_ret
  exact ⟨_, rfl, HE.out⟩
theorem kids_filter (l : List Nd) (i : Int) : (l.filter fun x => !(!(x.p == i))) = l.filter fun x => x.p == i := by
  congr 1
  funext x
  simp
end
end Go.Proofs.YtlcbmobdokicaaaGreat
