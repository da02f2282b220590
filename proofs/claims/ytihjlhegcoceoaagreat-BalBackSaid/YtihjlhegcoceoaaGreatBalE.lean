/-
  Contract of bal.All over a view in memory: of each balance of the year a line, in a row of the call's own; nothing that was there is written. Condition: what a scan of the year comes to.
-/
import Derived.Test.YtihjlhegcoceoaaGreatBalC
import Derived.Test.YtihjlhegcoceoaaGreatViewN
import Derived.Lib.AppendZeros
namespace Go.Proofs.YtihjlhegcoceoaaGreat
open Go.RowKit Go.Maps
set_option maxRecDepth 100000
set_option linter.unusedVariables false

def linesK (ps : List KV) : List Ln := ps.filterMap lineK
theorem linesK_len (ps : List KV) : (linesK ps).length ≤ ps.length := List.length_filterMap_le _ _
theorem linesK_step {ps : List KV} {k : Nat} {x : KV} (h : ps[k]? = some x) : linesK (ps.take (k + 1)) = linesK (ps.take k) ++ (lineK x).toList := by
  obtain ⟨hk, rfl⟩ := List.getElem?_eq_some_iff.1 h
  unfold linesK
  rw [List.take_succ_eq_append_getElem hk, List.filterMap_append]
  congr 1
theorem getD_int {l : List Int} (h : ∀ x ∈ l, -9223372036854775808 ≤ x ∧ x ≤ 9223372036854775807) (k : Nat) : I64 (l[k]?.getD 0) := by
  rcases Nat.lt_or_ge k l.length with hk | hk
  · rw [List.getElem?_eq_getElem hk]
    exact h _ (List.getElem_mem hk)
  · rw [List.getElem?_eq_none hk]
    exact ⟨by decide, by decide⟩
theorem numB_int {b : List Int} (hb : AllBytes b) : I64 (numB b).1 := by
  unfold numB
  split
  · refine getD_int (fun x hx => ?_) 0
    unfold unpackR at hx
    split at hx
    · split at hx
      · exact unpackN_ints 8 b _ _ hb x hx
      · cases hx
    · cases hx
  · exact ⟨by decide, by decide⟩
theorem splitK_ints {b : List Int} (hb : AllBytes b) : ∀ x ∈ (splitK b).1, -9223372036854775808 ≤ x ∧ x ≤ 9223372036854775807 := by
  intro x hx
  unfold splitK splitR at hx
  split at hx
  · exact unpackN_ints 4 b _ _ hb x hx
  · cases hx
theorem lineK_ok {x : KV} (hk : AllBytes x.1) (hv : AllBytes x.2) {l : Ln} (h : lineK x = some l) : LnOk l := by
  unfold lineK at h
  split at h
  · split at h
    · obtain rfl := Option.some.inj h
      exact ⟨getD_int (splitK_ints hk) 1, getD_int (splitK_ints hk) 2, (show B64 0 by unfold B64; omega), numB_int hv⟩
    · cases h
  · cases h
def PairsB (ps : List KV) : Prop := ∀ x ∈ ps, AllBytes x.1 ∧ AllBytes x.2
theorem linesK_ok {ps : List KV} (h : PairsB ps) : ∀ l ∈ linesK ps, LnOk l := by
  intro l hl
  obtain ⟨q, hq, e⟩ := List.mem_filterMap.1 hl
  exact lineK_ok (h q hq).1 (h q hq).2 e
/-- What a scan of one year answers, from a world on. -/
def ScansYear (w : World) (v : Nat) (y : Int) (ps : List KV) : Prop :=
  ∀ W A k, Below w.heap.size w W → RB W W.heap.size A 5 (keyL 66 [y]) → Calls Tryz.prog 8 #[.pointer (some ⟨v, 0, none⟩), .slice A 5 k] W fun e w' => ∃ A' n' k', e = .returned (.slice A' n' k') ∧ n' ≤ k' ∧ RPairs w' w'.heap.size A' n' ps ∧ Below W.heap.size W w'
theorem bYearLen (y : Int) : (keyL 66 [y]).length = 5 := by unfold keyL; rw [tagL_length]; rfl
section
variable {w w' : World} {v : Nat}
set_option maxHeartbeats 3200000 in
theorem balAll_of {ps : List KV} {y : Int} (hy : 0 ≤ y ∧ y ≤ 4294967295) (hs : ScansYear w v y ps) (hl : ps.length ≤ 2147483647) :
    Calls Tryz.prog 11 #[.pointer (some ⟨v, 0, none⟩), .int .i64 y] w fun e w' => ∃ u, e = .returned u ∧ LOwn w' w.heap.size u (linesK ps) ∧ PairsB ps ∧ Below w.heap.size w w' := by
  have k1 : decide (y < 0) = false := decide_eq_false (by omega)
  have k2 : decide (y > 4294967295) = false := decide_eq_false (by omega)
  have hl1 := one_lit w 3 [y] #[.int .i64 y] rfl (fun x hx => by obtain rfl := List.mem_singleton.1 hx; omega)
  have hb0 : Below w.heap.size w (w.alloc (.cells #[.int .i64 y] 3)) := (Below.refl _ _).alloc (Nat.le_refl _) _
  have HK := Lib.hid (balKey_any _ 1 1 _ [y] _ hl1 (by simp) (Nat.le_refl _) (by decide))
  have HB0 := Lib.hid hb0
  have HS := Lib.hid hs
  have HL := Lib.hid hl
  clear hs hl hy hl1 hb0
  go_enter Tryz.func11, Tryz.ntmps11
  go_wp2_with fail
  refine HK.out.mono ?_
  rintro e w1 ⟨u, rfl, ho⟩
  obtain ⟨A, k, rfl, h1, h2⟩ := ho.read (tagL_bytes (by omega) _)
  have hb01 := HB0.out.trans (ho.2.mono HB0.out.size)
  rw [bYearLen] at h1 h2 ⊢
  have HC := Lib.hid (HS.out w1 A k hb01 h2)
  have HB1 := Lib.hid hb01
  clear ho h1 h2 HK HS hb01
  go_wp2_with fail
  refine HC.out.mono ?_
  rintro e w2 ⟨A2, n, k2', rfl, hnk, hp, hb2⟩
  have HP := Lib.hid hp
  have HB2 := Lib.hid (HB1.out.trans (hb2.mono HB1.out.size))
  have hn : n ≤ 2147483647 := by rw [← hp.len]; exact HL.out
  clear hp hb2 HC HB1 HL
  go_wp2_with fail
  go_loopw [5, 22] (fun u i wr => ∃ k : Nat, k ≤ n ∧ i = .int .i64 k ∧ Hid (LOwn wr w2.heap.size u (linesK (ps.take k)) ∧ PairsB (ps.take k)) ∧ Hid (Below w2.heap.size w2 wr)) (fun _ i _ => n - (intOf i).toNat)
  case atStart => exact ⟨0, Nat.zero_le _, rfl, Lib.hid ⟨LOwn.start _ _, fun x hx => by cases hx⟩, Lib.hid (Below.refl _ _)⟩
  case round =>
    obtain ⟨k, hk, rfl, hown, hbw⟩ := hrel
    by_cases hlt : k < n
    · have hlt' : (k : Int) < (n : Int) := by omega
      obtain ⟨bb, off, rfl, hbb, hat⟩ := HP.out.2 (by omega)
      obtain ⟨x, hx⟩ : ∃ x, ps[k]? = some x := ⟨_, List.getElem?_eq_getElem (by rw [HP.out.len]; exact hlt)⟩
      obtain ⟨ka, kn, kc, va, vn, vc, h0, h1, h2, ⟨h3a, h3b⟩, h4, ⟨h5a, h5b⟩⟩ := (hat k x hx).keep hbb (fun b o hbb => hbw.out.cell (p := ⟨b, o, none⟩) hbb)
      have hst := linesK_step hx
      have hlen : (linesK (ps.take k)).length ≤ k := Nat.le_trans (linesK_len _) (by rw [List.length_take]; exact Nat.min_le_left _ _)
      have hPB := Lib.hid (show PairsB (ps.take (k + 1)) from by
        obtain ⟨hk', e⟩ := List.getElem?_eq_some_iff.1 hx
        rw [List.take_succ_eq_append_getElem hk', e]
        intro z hz
        rcases List.mem_append.1 hz with hz | hz
        · exact hown.out.2 z hz
        · obtain rfl := List.mem_singleton.1 hz
          exact ⟨h2.bytes, h4.bytes⟩)
      have hxok := Lib.hid (show ∀ l, lineK x = some l → LnOk l from fun l h => lineK_ok h2.bytes h4.bytes h)
      obtain ⟨w3, hw3⟩ : ∃ w3, w3 = wr.alloc (.cells #[.slice ka kn kc, .slice va vn vc] 61) := ⟨_, rfl⟩
      have hba : Below wr.heap.size wr w3 := by rw [hw3]; exact (Below.refl _ _).alloc (Nat.le_refl _) _
      have q0 : w3.cell? ⟨wr.heap.size, 0, none⟩ = some (.slice ka kn kc) := by rw [hw3]; exact cell_of_row _ _ 0 _ _ (0, 0) (heap_alloc_new wr _)
      have q1 : w3.cell? ⟨wr.heap.size, 1, none⟩ = some (.slice va vn vc) := by rw [hw3]; exact cell_of_row _ _ 1 _ _ (0, 0) (heap_alloc_new wr _)
      have HG := Lib.hid (balLineOf_any ka kn kc va vn vc x w2.heap.size w3 (h2.below (hba.mono hbw.out.size)) (h4.below (hba.mono hbw.out.size)) (Nat.le_trans hbw.out.size hba.size) h3a h5a h3b h5b)
      have HA := Lib.hid (hbw.out.trans (hba.mono hbw.out.size))
      have HO := Lib.hid (hown.out.1.below hba)
      generalize lineK x = L at HG hst hxok
      have HST := Lib.hid hst
      clear hat hx h2 h4 hown hbw hba hst
      go_wp2_with fail
      rw [← hw3]
      go_wp2_with fail
      refine HG.out.mono ?_
      rintro e w4 ⟨rfl, hb4⟩
      have ha4 := HA.out.trans (hb4.mono HA.out.size)
      have ho4 := HO.out.below hb4
      clear HA HO HG hb4 hw3 q0 q1 h3a h3b h5a h5b h0 h1
      cases L with
      | none =>
        have hX : Below w4.heap.size w4 (w4.alloc (.cells #[.int .i64 0, .int .i64 0, .int .i64 0, .int .i64 0] 27 (0, 0))) := (Below.refl _ _).alloc (Nat.le_refl _) _
        have HE := Lib.hid (show LOwn (w4.alloc (.cells #[.int .i64 0, .int .i64 0, .int .i64 0, .int .i64 0] 27 (0, 0))) w2.heap.size _ (linesK (ps.take (k + 1))) ∧ PairsB (ps.take (k + 1)) from ⟨by rw [HST.out]; show LOwn _ _ _ (_ ++ []); rw [List.append_nil]; exact ho4.below hX, hPB.out⟩)
        have HB := Lib.hid (ha4.trans (hX.mono ha4.size))
        clear hX ha4 ho4
        unfold lnO
        go_wp2_with fail
        go_roundw
        case rel => exact ⟨k + 1, by omega, by go_num, HE, HB⟩
        case measure => simp [intOf]; omega
      | some l =>
        have hok := hxok.out l rfl
        obtain ⟨f, o, nn, a⟩ := l
        have hX : Below w4.heap.size w4 (w4.alloc (.cells #[.int .i64 f, .int .i64 o, .int .i64 nn, .int .i64 a] 27 (0, 0))) := (Below.refl _ _).alloc (Nat.le_refl _) _
        obtain ⟨wx, hwx⟩ : ∃ wx, wx = w4.alloc (.cells #[.int .i64 f, .int .i64 o, .int .i64 nn, .int .i64 a] 27 (0, 0)) := ⟨_, rfl⟩
        have hblk : wx.heap[w4.heap.size]? = some (.cells #[.int .i64 f, .int .i64 o, .int .i64 nn, .int .i64 a] 27 (0, 0)) := by rw [hwx]; exact heap_alloc_new w4 _
        have hsz : wx.heap.size = w4.heap.size + 1 := by rw [hwx]; simp
        rw [← hwx] at hX
        obtain ⟨r0, r1, r2, r3⟩ := balLine_cells hblk
        have hY : Below wx.heap.size wx (wx.alloc (.cells #[.int .i64 f, .int .i64 o, .int .i64 nn, .int .i64 a] 27 (0, 0))) := (Below.refl _ _).alloc (Nat.le_refl _) _
        have hXY := hX.trans (hY.mono hX.size)
        obtain ⟨v', w6, hrun, hown6, hb6, _⟩ := (ho4.below hXY).append1 (x := ⟨f, o, nn, a⟩) (heap_alloc_new wx _) hok (by omega) (Nat.le_trans ha4.size hXY.size) 38
        rw [hsz] at hrun
        have HE := Lib.hid (show LOwn w6 w2.heap.size v' (linesK (ps.take (k + 1))) ∧ PairsB (ps.take (k + 1)) from ⟨by rw [HST.out]; exact hown6, hPB.out⟩)
        have HB := Lib.hid ((ha4.trans (hXY.mono ha4.size)).trans hb6)
        subst hwx
        have HRUN := Lib.hid hrun
        clear hX hY hXY ha4 ho4 hrun hown6 hb6 hblk hok hsz
        unfold lnO
        go_wp2_with (at_builtin; refine Lib.wpList_append_run _ rfl _ _ _ _ rfl _ _ rfl rfl _ _ HRUN.out ?_)
        go_roundw
        case rel => exact ⟨k + 1, by omega, by go_num, HE, HB⟩
        case measure => simp [intOf]; omega
    · obtain rfl : k = n := by omega
      have HE := Lib.hid (show LOwn wr w.heap.size _ (linesK ps) ∧ PairsB ps from by
        have h := hown.out
        rw [List.take_of_length_le (by rw [HP.out.len]; exact Nat.le_refl _)] at h
        exact ⟨h.1.base_le HB2.out.size, h.2⟩)
      clear hown
      go_wp2
      go_ret
      exact ⟨_, rfl, HE.out.1, HE.out.2, HB2.out.trans (hbw.out.mono HB2.out.size)⟩
theorem balAll_any {X : Nat → Prop} {m c : Nat} {S : VS} (h : ViewAt w X v m c S) (hS : ScanOk S) (hW : S.W.length ≤ 2147000000) {y : Int} (hy : 0 ≤ y ∧ y ≤ 4294967295) :
    Calls Tryz.prog 11 #[.pointer (some ⟨v, 0, none⟩), .int .i64 y] w fun e w' => ∃ A k, e = .returned (.slice A (linesK ((S.scan (tx (keyL 66 [y]))).map kvOf)).length k) ∧ (linesK ((S.scan (tx (keyL 66 [y]))).map kvOf)).length ≤ k ∧ RL w' w'.heap.size A (linesK ((S.scan (tx (keyL 66 [y]))).map kvOf)).length (linesK ((S.scan (tx (keyL 66 [y]))).map kvOf)) ∧ Below w.heap.size w w' := by
  refine (balAll_of (ps := (S.scan (tx (keyL 66 [y]))).map kvOf) hy (fun W A k hb hr => vScan_any (h.below hb) hS.wf hS.wk hS.cf hS.ck hr (Nat.le_refl _)) ?_).mono ?_
  · rw [List.length_map]
    have := scan_len S (tx (keyL 66 [y])); have := hS.cf
    omega
  · rintro e w' ⟨u, rfl, ho, hpb, hb⟩
    obtain ⟨A, k, rfl, hk⟩ := ho.shape
    exact ⟨A, k, rfl, hk, (ho.read (linesK_ok hpb)).2.2, hb⟩
end
end Go.Proofs.YtihjlhegcoceoaaGreat
