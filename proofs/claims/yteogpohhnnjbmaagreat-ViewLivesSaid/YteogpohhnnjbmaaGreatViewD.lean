/-
  Contracts of the view's pairOf, and of the memory's Write. Conditions: texts and values of at most 2^47 bytes; fewer than 2^47 pairs.
-/
import Derived.Test.YteogpohhnnjbmaaGreatViewC
import Derived.Test.YteogpohhnnjbmaaGreatGRow
import Derived.Test.YteogpohhnnjbmaaGreatViewK
import Derived.Lib.ConvBytes
namespace Go.Proofs.YteogpohhnnjbmaaGreat
open Go.RowKit Go.Maps
set_option maxRecDepth 100000
set_option linter.unusedVariables false

/-- A text's bytes, in new memory. -/
theorem conv_txt (w : World) (x : Txt) (hx : x.length ≤ 140737488355328) : ∃ u w', (convert 9 45 (encStr x)).run Tryz.prog w = .ok u w' ∧ SV w' (fun k => k < w.heap.size) u (by_ x) ∧ Below w.heap.size w w' := by
  have hrun := Lib.run_convert_string_bytes (P := Tryz.prog) w 9 45 5 ⟨x.toArray⟩ Tryz.underlying9 Tryz.underlying45 Tryz.underlying5
  have hsz : (ByteArray.mk x.toArray).size = x.length := by simp [ByteArray.size]
  have hge := grownCap_ge w x.length 0 5
  rw [hsz] at hrun
  refine ⟨_, _, hrun, ⟨_, _, _, rfl, hge, hx, ⟨by rw [by_length], by_bytes x, fun hn => ⟨w.heap.size, 0, rfl, by rw [Lib.bytesWorld_size]; omega, fun j hj => ?_⟩⟩, fun a ha hn hlt => ?_⟩, ⟨rfl, rfl, rfl, by rw [Lib.bytesWorld_size]; omega, fun k hk => Lib.bytesWorld_at_old _ _ _ _ hk⟩⟩
  · rw [Nat.zero_add, Lib.bytesWorld_cell _ _ _ _ (by rw [hsz]; exact hj)]
    unfold by_
    rw [List.getElem?_map, List.getElem?_eq_getElem hj]
    simp [List.getD, hj]
  · cases ha
    exact absurd hlt (Nat.lt_irrefl _)

theorem piece_cells2 {w : World} {b : Nat} {x0 x1 : Value} (z0 z1 : Value) (h0 : w.cell? ⟨b, 0, none⟩ = some x0) (h1 : w.cell? ⟨b, 1, none⟩ = some x1) : ((w.setCell ⟨b, 0, none⟩ z0).setCell ⟨b, 1, none⟩ z1).cell? ⟨b, 0, none⟩ = some z0 ∧ ((w.setCell ⟨b, 0, none⟩ z0).setCell ⟨b, 1, none⟩ z1).cell? ⟨b, 1, none⟩ = some z1 := by
  refine ⟨?_, World.cell?_setCell_same' _ _ _ ?_⟩
  · rw [World.cell?_setCell_other _ _ _ _ (by simp)]
    exact World.cell?_setCell_same' _ _ _ (by rw [h0]; rfl)
  · rw [World.cell?_setCell_other _ _ _ _ (by simp), h1]; rfl

section
variable {w w' : World} {X : Nat → Prop} {v m c : Nat} {S : VS}
set_option maxHeartbeats 800000 in
theorem pairOf_any (w : World) (x : Txt) (hx : x.length ≤ 140737488355328) {A : Option Addr} {n k B : Nat} {l : List Int} (hr : RB w B A n l) (hB : B ≤ w.heap.size) (hn : n ≤ 140737488355328) :
    Calls Tryz.prog 40 #[encStr x, .slice A n k] w fun e w' => ∃ u1 u2, e = .returned (.agg #[u1, u2]) ∧ SV w' (fun k => k < w.heap.size) u1 (by_ x) ∧ SV w' (fun k => k < w.heap.size) u2 l ∧ Below w.heap.size w w' := by
  obtain ⟨w1, hw1⟩ : ∃ w1, w1 = w.alloc (.cells #[.slice none 0 0, .slice none 0 0] 69 (0, 0)) := ⟨_, rfl⟩
  have hb1 : Below w.heap.size w w1 := by rw [hw1]; exact (Below.refl _ w).alloc (Nat.le_refl _) _
  have hs1 : w1.heap.size = w.heap.size + 1 := by rw [hw1]; simp
  have hbk1 : w1.heap[w.heap.size]? = some (.cells #[.slice none 0 0, .slice none 0 0] 69 (0, 0)) := by rw [hw1]; exact heap_alloc_new _ _
  obtain ⟨u1, w2, hconv, hsv1, hb2⟩ := conv_txt w1 x hx
  have hbk2 := (hb2.block w.heap.size (by omega)).trans hbk1
  have hb02 := hb1.trans (hb2.mono hb1.size)
  have HC := Lib.hid (SCloneN_any (w := w2) k (hr.below (hb02.mono hB)) (by have := hb2.size; omega) hn)
  have HS1 := Lib.hid hsv1
  obtain ⟨A1, n1, k1, rfl, _⟩ := hsv1
  have HB := Lib.hid hb02
  have HK := Lib.hid (And.intro hbk2 (And.intro hs1 hb2.size))
  generalize hst : encStr x = st at hconv ⊢
  rw [hw1] at hconv
  clear hbk1 hbk2 hb1 hb2 hb02 hs1 hr hst
  go_enter Tryz.func40, Tryz.ntmps40
  go_wp2_with fail
  refine HC.out.mono ?_
  rintro e w3 ⟨u2, rfl, hs2, hb3⟩
  obtain ⟨hk2, hz1, hz2⟩ := HK.out
  have hk3 := (hb3.block w.heap.size (by omega)).trans hk2
  have c0 : w3.cell? ⟨w.heap.size, 0, none⟩ = some (.slice none 0 0) := by rw [cell_of_row w3 _ 0 _ _ (0, 0) hk3]; rfl
  have c1 : w3.cell? ⟨w.heap.size, 1, none⟩ = some (.slice none 0 0) := by rw [cell_of_row w3 _ 1 _ _ (0, 0) hk3]; rfl
  have f0 : w3.frozen? ⟨w.heap.size, 0, none⟩ = false := by simp [World.frozen?, hk3]
  have f1 : w3.frozen? ⟨w.heap.size, 1, none⟩ = false := by simp [World.frozen?, hk3]
  have HS2 := Lib.hid hs2
  obtain ⟨A2, n2, k2, rfl, _⟩ := hs2
  have HB3 := Lib.hid hb3
  have HZ := Lib.hid (And.intro hz1 hz2)
  clear hk2 hz1 hz2 hk3 hb3
  go_wp2_with fail
  obtain ⟨d0, d1⟩ := piece_cells2 (.slice A1 n1 k1) (.slice A2 n2 k2) c0 c1
  refine bodyPost_ret (v := .agg #[.slice A1 n1 k1, .slice A2 n2 k2]) (by
    generalize ((w3.setCell ⟨w.heap.size, 0, none⟩ (Value.slice A1 n1 k1)).setCell ⟨w.heap.size, 1, none⟩ (Value.slice A2 n2 k2)) = X at *
    simp [results, Tryz.results40, go_sem, d0, d1]) rfl ?_
  obtain ⟨hz1, hz2⟩ := HZ.out
  have hbs : Below w.heap.size w3 ((w3.setCell ⟨w.heap.size, 0, none⟩ (Value.slice A1 n1 k1)).setCell ⟨w.heap.size, 1, none⟩ (Value.slice A2 n2 k2)) := Below.setCell (p := ⟨w.heap.size, 1, none⟩) (Below.setCell (p := ⟨w.heap.size, 0, none⟩) (Below.refl _ _) (Nat.le_refl _) _) (Nat.le_refl _) _
  have hkeep : ∀ {u : Value} {d : List Int}, SV w3 (fun k => k < w1.heap.size) u d → SV ((w3.setCell ⟨w.heap.size, 0, none⟩ (Value.slice A1 n1 k1)).setCell ⟨w.heap.size, 1, none⟩ (Value.slice A2 n2 k2)) (fun k => k < w.heap.size) u d := fun h => (h.keep (X' := fun k => k < w1.heap.size) hbs.size (fun _ _ h => h) (fun k hk hn => by
    rw [Below.heap_setCell _ _ _ _ (by simp; omega), Below.heap_setCell _ _ _ _ (by simp; omega)])).far (fun k hk => by omega)
  refine ⟨_, _, rfl, hkeep (HS1.out.keep HB3.out.size (fun _ _ h => h) (fun k hk _ => HB3.out.block k hk)), hkeep (HS2.out.far fun k hk => by omega), (HB.out.trans (HB3.out.mono HB.out.size)).trans hbs⟩

theorem MapL.cellsKept {β : Type} {R : World → (Nat → Prop) → Value → β → Prop} {X X' : Nat → Prop} {b : Nat} {L L' : List (Txt × β)} (h : MapL R w X b L) (h' : MapL R w' X' b L') (ht : Touch (fun k => k = b) w w') : ∀ p o, p < w.heap.size → w'.cell? ⟨p, o, none⟩ = w.cell? ⟨p, o, none⟩ := by
  intro p o hp
  by_cases e : p = b
  · rw [e, h.noCell, h'.noCell]
  · exact World.cell?_of_block (a := ⟨p, o, none⟩) (ht.block p hp e)
theorem written_take (W ps : TL) (ds : List Txt) : VS.written W ps ds = (ps.take ps.length).foldl (fun L p => setT L p.1 p.2) ((ds.take ds.length).foldl delT W) := by rw [List.take_length, List.take_length]; rfl
theorem dels_step {W : TL} {ds : List Txt} {i : Nat} {x : Txt} (h : ds[i]? = some x) : (ds.take (i + 1)).foldl delT W = delT ((ds.take i).foldl delT W) x := by
  obtain ⟨hi, rfl⟩ := List.getElem?_eq_some_iff.1 h
  rw [List.take_succ_eq_append_getElem hi, List.foldl_append]
  rfl
theorem puts_step {W ps : TL} {i : Nat} {x : Txt × List Int} (h : ps[i]? = some x) : (ps.take (i + 1)).foldl (fun L p => setT L p.1 p.2) W = setT ((ps.take i).foldl (fun L p => setT L p.1 p.2) W) x.1 x.2 := by
  obtain ⟨hi, rfl⟩ := List.getElem?_eq_some_iff.1 h
  rw [List.take_succ_eq_append_getElem hi, List.foldl_append]
  rfl
theorem dels_rise : ∀ (ds : List Txt) {W : TL}, RiseT W → RiseT (ds.foldl delT W) ∧ (ds.foldl delT W).length ≤ W.length
  | [], W, h => ⟨h, Nat.le_refl _⟩
  | d :: ds, W, h => by
    have ih := dels_rise ds (h.del d)
    exact ⟨ih.1, Nat.le_trans ih.2 (delT_len _ _)⟩
theorem puts_rise : ∀ (ps : TL) {W : TL}, RiseT W → RiseT (ps.foldl (fun L p => setT L p.1 p.2) W) ∧ (ps.foldl (fun L p => setT L p.1 p.2) W).length ≤ W.length + ps.length
  | [], W, h => ⟨h, Nat.le_refl _⟩
  | d :: ds, W, h => by
    have ih := puts_rise ds (h.set d.1 d.2)
    refine ⟨ih.1, Nat.le_trans ih.2 ?_⟩
    have := setT_len W d.1 d.2
    simp
    omega

set_option maxHeartbeats 3200000 in
theorem memWrite_any {W ps : TL} {ds : List Txt} (h : MapL SV w X m W) (hup : RiseT W) (hXm : X m) (hX : ∀ k, X k → k < w.heap.size) {A A' : Option Addr} {n k n' k' B : Nat} (hp : RPairs w B A n (ps.map kvOf)) (hd : RTexts w B A' n' (ds.map by_)) (hB : B ≤ w.heap.size) (hn : n ≤ maxLen) (hn' : n' ≤ maxLen) (hv : ∀ p ∈ ps, p.2.length ≤ 140737488355328) (hfew : W.length + ps.length < maxLen) :
    Calls Tryz.prog 255 #[.map (some m), .slice A n k, .slice A' n' k'] w fun e w' => e = .returned (.int .i64 0) ∧ MapL SV w' X m (VS.written W ps ds) ∧ Touch (fun k => k = m) w w' := by
  unfold maxLen at hn hn'
  have hpl : ps.length = n := by simpa using hp.len
  have hdl : ds.length = n' := by simpa using hd.len
  have hsw := Lib.hid (And.intro h hup)
  have H1 := Lib.hid (show MapL SV w X m ((ds.take 0).foldl delT W) ∧ Touch (fun k => k = m) w w from ⟨h, Touch.refl _ _⟩)
  have HP := Lib.hid hp
  have HD := Lib.hid hd
  have HV := Lib.hid (And.intro hv (And.intro hX hfew))
  have HPL := Lib.hid hpl
  have HDL := Lib.hid hdl
  clear hp hd h hup hX hv hfew hpl hdl
  go_enter Tryz.func255, Tryz.ntmps255
  go_wp2_with fail
  go_loopw [13] (fun i wr => ∃ j : Nat, j ≤ n' ∧ i = .int .i64 j ∧ Hid (MapL SV wr X m ((ds.take j).foldl delT W) ∧ Touch (fun k => k = m) w wr)) (fun i _ => n' - (intOf i).toNat)
  case atStart => exact ⟨0, Nat.zero_le _, rfl, H1⟩
  case round =>
    obtain ⟨j, hj, rfl, HM⟩ := hrel
    obtain ⟨hm, ht⟩ := HM.out
    obtain ⟨h, hup⟩ := hsw.out
    by_cases hlt : j < n'
    · obtain ⟨b, off, rfl, hbB, hat⟩ := HD.out.2 (by omega)
      obtain ⟨y, hy⟩ : ∃ y, ds[j]? = some y := ⟨_, List.getElem?_eq_getElem (by rw [HDL.out]; exact hlt)⟩
      obtain ⟨ka, kn, kc, h0, h1, h2, h3⟩ := (hat j (by_ y) (by rw [List.getElem?_map, hy]; rfl)).keep hbB (fun b o hbb => h.cellsKept hm ht b o (Nat.lt_of_lt_of_le hbb hB))
      have hlen := h1.len
      rw [by_length] at hlen
      have hconv : (convert 45 9 (.slice ka kn kc)).run Tryz.prog wr = .ok (encStr (tx (by_ y))) wr := h1.conv kc
      rw [tx_by] at hconv
      obtain ⟨w3, hrun, hm3, hg3⟩ := hm.delete @sv_kept hXm (e := 45) Tryz.underlying32 (x := y) (by omega) 0
      have hst := Lib.hid (dels_step (W := W) hy)
      rw [← hst.out] at hm3
      have HN := Lib.hid (And.intro hm3 (ht.grown hg3 rfl))
      clear hat hy h1 h hup hm ht hm3 hg3 hst hlen
      generalize encStr y = st at hconv hrun
      have hk64 : (j : Int) < (n' : Int) := by omega
      go_wp2
      go_roundw
      case rel => exact ⟨j + 1, by omega, by go_num, HN⟩
      case measure => simp [intOf]; omega
    · obtain rfl : j = n' := by omega
      have hW1 := dels_rise ds hup
      have hm1 : MapL SV wr X m (((ps.take 0).foldl (fun L p => setT L p.1 p.2) (ds.foldl delT W))) := by
        have := hm
        rw [← HDL.out, List.take_length] at this
        exact this
      have H2 := Lib.hid (And.intro hm1 ht)
      have HU := Lib.hid hW1
      clear hm ht h hup hm1 hW1
      go_wp2_with fail
      go_loopw [23] (fun i wr => ∃ j : Nat, j ≤ n ∧ i = .int .i64 j ∧ Hid (MapL SV wr X m ((ps.take j).foldl (fun L p => setT L p.1 p.2) (ds.foldl delT W)) ∧ Touch (fun k => k = m) w wr)) (fun i _ => n - (intOf i).toNat)
      case atStart => exact ⟨0, Nat.zero_le _, rfl, H2⟩
      case round =>
        obtain ⟨q, hq, rfl, HM2⟩ := hrel
        obtain ⟨hm, ht⟩ := HM2.out
        obtain ⟨h, hup⟩ := hsw.out
        by_cases hlt : q < n
        · obtain ⟨hv, hX, hfew⟩ := HV.out
          have hXr : ∀ k, X k → k < wr.heap.size := fun k hk => Nat.lt_of_lt_of_le (hX k hk) ht.size
          have hPr : RPairs wr B A n (ps.map kvOf) := HP.out.keep fun b o hbb => h.cellsKept hm ht b o (Nat.lt_of_lt_of_le hbb hB)
          have hBr : B ≤ wr.heap.size := Nat.le_trans hB ht.size
          obtain ⟨b, off, rfl, hbB, hat⟩ := hPr.2 (by omega)
          obtain ⟨y, hy⟩ : ∃ y, ps[q]? = some y := ⟨_, List.getElem?_eq_getElem (by rw [HPL.out]; exact hlt)⟩
          obtain ⟨ka, kn, kc, va, vn, vc, h0, h1, h2, h3, h4, h5⟩ := hat q (kvOf y) (by rw [List.getElem?_map, hy]; rfl)
          have hvn : vn ≤ 140737488355328 := by rw [← h4.len]; exact hv y (List.mem_of_getElem? hy)
          have hkl : y.1.length ≤ maxLen := by have := h2.len; rw [by_length] at this; rw [this]; exact h3.2
          have hrise := puts_rise (ps.take q) (dels_rise ds hup).1
          have hcount : ((ps.take q).foldl (fun L p => setT L p.1 p.2) (ds.foldl delT W)).length < maxLen := by
            have h1 := (dels_rise ds hup).2
            have h2 := hrise.2
            have h3 : (ps.take q).length ≤ ps.length := by rw [List.length_take]; exact Nat.min_le_right ..
            omega
          obtain ⟨w1, hw1⟩ : ∃ w1, w1 = wr.alloc (.cells #[.slice ka kn kc, .slice va vn vc] 69 (0, 0)) := ⟨_, rfl⟩
          have hb1 : Below wr.heap.size wr w1.drew := by rw [hw1]; exact ((Below.refl _ wr).alloc (Nat.le_refl _) _).drew
          have hs1 : wr.heap.size < w1.drew.heap.size := by rw [hw1]; simp
          have hbk1 : w1.drew.heap[wr.heap.size]? = some (.cells #[.slice ka kn kc, .slice va vn vc] 69 (0, 0)) := by rw [hw1]; exact heap_alloc_new _ _
          have HC := Lib.hid (SCloneN_any (w := w1.drew) (B := B) vc (h4.below (hb1.mono hBr)) (Nat.le_trans hBr hb1.size) hvn)
          have box : ∀ w2 : World, w2.heap[wr.heap.size]? = w1.drew.heap[wr.heap.size]? → w2.cell? ⟨wr.heap.size, 0, none⟩ = some (.slice ka kn kc) ∧ w2.cell? ⟨wr.heap.size, 1, none⟩ = some (.slice va vn vc) := fun w2 e => by
            rw [hbk1] at e
            exact ⟨by rw [cell_of_row w2 _ 0 _ _ (0, 0) e]; rfl, by rw [cell_of_row w2 _ 1 _ _ (0, 0) e]; rfl⟩
          have cv : ∀ w2 : World, (∀ b o, b < B → w2.cell? ⟨b, o, none⟩ = wr.cell? ⟨b, o, none⟩) → (convert 45 9 (.slice ka kn kc)).run Tryz.prog w2 = .ok (encStr y.1) w2 := fun w2 e => by
            have : (convert 45 9 (.slice ka kn kc)).run Tryz.prog w2 = .ok (encStr (tx (by_ y.1))) w2 := (h2.keep e).conv kc
            rwa [tx_by] at this
          have q1 : (w1.drew.cell? ⟨wr.heap.size, 0, none⟩ = some (.slice ka kn kc) ∧ w1.drew.cell? ⟨wr.heap.size, 1, none⟩ = some (.slice va vn vc)) ∧ (convert 45 9 (.slice ka kn kc)).run Tryz.prog w1.drew = .ok (encStr y.1) w1.drew := ⟨box _ rfl, cv _ fun b o hbb => (hb1.cell (p := ⟨b, o, none⟩) (Nat.lt_of_lt_of_le hbb hBr))⟩
          have HS := Lib.hid (show ∀ w2 u, Below w1.drew.heap.size w1.drew w2 → SV w2 (fun k => k < w1.drew.heap.size) u y.2 →
              ((w2.cell? ⟨wr.heap.size, 0, none⟩ = some (.slice ka kn kc) ∧ w2.cell? ⟨wr.heap.size, 1, none⟩ = some (.slice va vn vc)) ∧ (convert 45 9 (.slice ka kn kc)).run Tryz.prog w2 = .ok (encStr y.1) w2) ∧
              ∃ w3, (Instr.mapUpdate 32 (.map (some m)) (encStr y.1) u).run Tryz.prog w2 = .ok () w3 ∧ ((w3.cell? ⟨wr.heap.size, 0, none⟩ = some (.slice ka kn kc) ∧ w3.cell? ⟨wr.heap.size, 1, none⟩ = some (.slice va vn vc)) ∧ (convert 45 9 (.slice ka kn kc)).run Tryz.prog w3 = .ok (encStr y.1) w3) ∧
              Hid (MapL SV w3 X m ((ps.take (q + 1)).foldl (fun L p => setT L p.1 p.2) (ds.foldl delT W)) ∧ Touch (fun k => k = m) w w3) from by
            intro w2 u hb2 hs2
            have hb12 := hb1.trans (hb2.mono hb1.size)
            have hm2 := hm.keep @sv_kept (X' := X) hb12.size (fun _ _ h => h) (fun k hk _ => hb12.block k hk) (hb12.block m hm.lt)
            obtain ⟨w3, hrun, hm3, hg3⟩ := hm2.store (R := SV) @sv_kept hrise.1 hXm Tryz.underlying32 hcount hkl (hs2.far fun k hk => Nat.lt_trans (hXr k hk) hs1)
            have hmne : wr.heap.size ≠ m := fun e => by have := hm.lt; omega
            have t13 : Touch (fun k => k = m) wr w3 := (Touch.of_below hb12).grown hg3 rfl
            refine ⟨⟨box w2 (hb2.block _ hs1), cv w2 fun b o hbb => hb12.cell (p := ⟨b, o, none⟩) (Nat.lt_of_lt_of_le hbb hBr)⟩, w3, hrun, ⟨box w3 ((hg3.block _ (Nat.lt_of_lt_of_le hs1 hb2.size) (fun e => hmne (by injection e))).trans (hb2.block _ hs1)), cv w3 fun b o hbb => hm.cellsKept hm3 t13 b o (Nat.lt_of_lt_of_le hbb hBr)⟩, Lib.hid ⟨by rw [puts_step hy]; exact hm3, ht.trans t13⟩⟩)
          obtain ⟨h3a, h3b⟩ := h3
          obtain ⟨h5a, h5b⟩ := h5
          unfold maxLen at h3b h5b
          have hk64 : (q : Int) < (n : Int) := by omega
          clear hv hX hfew hXr hPr hBr hat hy h2 h4 hrise hcount hbk1 box cv hb1 hm ht h hup hkl hvn
          generalize encStr y.1 = st at q1 HS
          go_wp2_with fail
          rw [← hw1]
          clear hw1
          generalize wr.heap.size = bx at q1 HS hs1 ⊢
          go_region_held3 (fun w' => (w'.cell? ⟨bx, 0, none⟩ = some (.slice ka kn kc) ∧ w'.cell? ⟨bx, 1, none⟩ = some (.slice va vn vc)) ∧ (convert 45 9 (.slice ka kn kc)).run Tryz.prog w' = .ok st w')
            (first | with_reducible exact q3 | with_reducible exact q2 | exact q1)
            (first | (go_at_call 28; refine HC.out.mono ?_; rintro e w2 ⟨u, rfl, hs, hb⟩; obtain ⟨q2, w3, hrun3, q3, HN⟩ := HS.out w2 u hb hs; obtain ⟨A2, n2, k2, rfl, _⟩ := hs))
          all_goals
            clear q1 q2 q3 hrun3 HC HS h0 h1 hb
            go_wp2
            go_roundw
            case rel => exact ⟨q + 1, by omega, by go_num, HN⟩
            case measure => simp [intOf]; omega
        · obtain rfl : q = n := by omega
          have HFIN := Lib.hid (show MapL SV wr X m (VS.written W ps ds) ∧ Touch (fun k => k = m) w wr from by
            refine ⟨?_, ht⟩
            have := hm
            rw [← HPL.out, List.take_length] at this
            exact this)
          clear hm ht h hup
          go_wp2
          go_ret
          exact ⟨rfl, HFIN.out⟩
end

end Go.Proofs.YteogpohhnnjbmaaGreat
