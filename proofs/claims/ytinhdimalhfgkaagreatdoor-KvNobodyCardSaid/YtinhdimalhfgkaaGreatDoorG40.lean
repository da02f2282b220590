/-
  The texts ExuI, ExuJ, ExuK joined. Conditions: those that each part says at its head.
-/
import Derived.Test.YtinhdimalhfgkaaGreatDoorG39
import Derived.Test.YtinhdimalhfgkaaGreatDoorG2

/-
  Contracts of the store's Delete, of a key that is there and whose bucket stays, and of Meta and Len. Conditions: numbers and lengths are ints; each step succeeds.
-/
namespace Go.Proofs.YtinhdimalhfgkaaGreatDoor
open Go.RowKit
set_option maxRecDepth 100000
set_option linter.unusedVariables false

section
variable {D : World → (Nat → Prop) → Addr → DS → Prop} {w w' : World} {F O : Nat → Prop} {p : Addr} {S : DS} {q r b st : Nat} {seq : Int} {L : List (Int × List Int)}

set_option maxHeartbeats 3200000 in
theorem store_del (api : DiskApi D) (h : Top D w F O p S q seq r b st L) {M : MV} (hM : HeadIs S L M) {ka : Option Addr} {kn kc B : Nat} {key : List Int} (hk : RB w B ka kn key) (hB : B ≤ w.heap.size) (hkc : kn ≤ kc ∧ kn ≤ maxLen)
    {pg : Int} {ls : List Leaf} (hc : ChainIs S L M key pg ls) (hcnt : -9223372036854775808 < M.c ∧ M.c ≤ 9223372036854775807)
    {m i : Nat} {l : Leaf} (hfd : FoundIs ls key m i l) (hcase : m = 0 ∨ (l.ps.eraseIdx i).length ≠ 0) (hln : l.ps.length ≤ 4294967295)
    (hlpg : -9223372036854775808 ≤ l.pg ∧ l.pg ≤ 9223372036854775807) (hd : -9223372036854775808 ≤ l.d ∧ l.d ≤ 9223372036854775807) (hx : -9223372036854775808 ≤ l.x ∧ l.x ≤ 9223372036854775807) (hmay : mayBk ⟨l.d, l.x, l.ps.eraseIdx i⟩ = true)
    (hN : IntsM { M with c := M.c - 1 }) (hmayM : mayB { M with c := M.c - 1 } = true) (hok : okS S { M with c := M.c - 1 } L (finS M { M with c := M.c - 1 } [.lay l.pg (pageBk ⟨l.d, l.x, l.ps.eraseIdx i⟩)])) :
    Calls Tryz.prog 18 #[.pointer (some ⟨st, 0, none⟩), .slice ka kn kc] w fun e w' => e = .returned (.tuple #[.bool true, .int .i64 0]) ∧ TopAft D w F O p S q seq r b st (runS S { M with c := M.c - 1 } L (finS M { M with c := M.c - 1 } [.lay l.pg (pageBk ⟨l.d, l.x, l.ps.eraseIdx i⟩)])) w' := by
  have HHD := Lib.hid (head_any api h.at_ hM)
  have HRM := Lib.hid (show ∀ (w2 w3 : World) (ch mb : Nat) (v v' sv : Value), Below w.heap.size w w2 → Gath w2 w3 ch st mb M M v v' sv 0 (fun _ => none) [] [] → Calls Tryz.prog 64 #[.pointer (some ⟨ch, 0, none⟩), .slice ka kn kc] w3 fun e w' => e = .returned (.tuple #[.bool true, .int .i64 0]) ∧ ∃ sv2 f, Gath w2 w' ch st mb M { M with c := M.c - 1 } v v' sv2 0 (fun _ => none) [f] [.lay l.pg (pageBk ⟨l.d, l.x, l.ps.eraseIdx i⟩)] from
    fun w2 w3 ch mb v v' sv hb hg => remove_in api (h.at_.below api hb) hg (BIn.of_below (hk.more hB) (hb.trans (hg.bel.mono hb.size)) (fun k hk => Nat.le_trans hb.size (hg.lt k hk).1)) hkc hc hcnt hfd hcase hln hlpg hd hx hmay (by decide))
  have HFIN := Lib.hid (show ∀ (w2 w3 : World) (ch mb : Nat) (v v' sv : Value) (f : Value), Below w.heap.size w w2 → Gath w2 w3 ch st mb M { M with c := M.c - 1 } v v' sv 0 (fun _ => none) [f] [.lay l.pg (pageBk ⟨l.d, l.x, l.ps.eraseIdx i⟩)] → Calls Tryz.prog 65 #[.pointer (some ⟨ch, 0, none⟩)] w3 fun e w' => e = .returned (.int .i64 0) ∧ TopAft D w F O p S q seq r b st (runS S { M with c := M.c - 1 } L (finS M { M with c := M.c - 1 } [.lay l.pg (pageBk ⟨l.d, l.x, l.ps.eraseIdx i⟩)])) w' from
    fun w2 w3 ch mb v v' sv f hb hg => (finish_g api (h.at_.below api hb) hg h.len (fun k hk => Nat.lt_of_lt_of_le (h.at_.pg.lt k hk) hb.size) h.out hN hmayM (by simp) hok).mono fun e w' z => ⟨z.1, h.did (z.2.base hb)⟩)
  clear h hM hk hc hfd hcase hln hlpg hd hx hmay hN hmayM hok hcnt
  go_enter Tryz.func18, Tryz.ntmps18
  go_wp2_with fail
  refine HHD.out.mono ?_
  rintro e w1 ⟨A, k, c, rfl, hkc1, hk1000, hri, _, hb1⟩
  obtain ⟨w2, hw2⟩ : ∃ w2, w2 = w1.alloc (.cells #[.int .i64 M.d, .int .i64 M.f, .int .i64 M.n, .int .i64 M.c, .slice A k c] 41) := ⟨_, rfl⟩
  have hba : Below w1.heap.size w1 w2 := by rw [hw2]; exact (Below.refl _ _).alloc (Nat.le_refl _) _
  have hb2 : Below w.heap.size w w2 := hb1.trans (hba.mono hb1.size)
  have HCO := Lib.hid (changeOf_any (w := w2) (st := st) (c := c) M ((hri.below hba).more hba.size) hkc1 hk1000)
  have HB2 := Lib.hid hb2
  clear hri hb1 hba hb2 HHD
  go_wp2_with fail
  rw [← hw2]
  clear hw2
  refine HCO.out.mono ?_
  rintro e w3 ⟨v', rfl, hg3⟩
  have HP := Lib.hid (HRM.out w2 w3 _ _ _ _ _ HB2.out hg3)
  generalize w2.heap.size + 2 = ch at HP ⊢
  clear hg3 HCO
  go_wp2_with fail
  refine HP.out.mono ?_
  rintro e w4 ⟨rfl, sv2, f, hg4⟩
  have HF := Lib.hid (HFIN.out w2 w4 _ _ _ _ _ f HB2.out hg4)
  clear hg4 HP
  go_wp2_with fail
  refine HF.out.mono ?_
  rintro e w5 ⟨rfl, ht⟩
  have HE := Lib.hid ht
  clear ht HF
  go_wp2_with fail
  go_ret2
  exact ⟨rfl, HE.out⟩
set_option maxHeartbeats 1600000 in
theorem store_meta (api : DiskApi D) (h : Top D w F O p S q seq r b st L) {M : MV} (hM : HeadIs S L M) :
    Calls Tryz.prog 14 #[.pointer (some ⟨st, 0, none⟩)] w fun e w' => ∃ A k c, e = .returned (.agg #[.int .i64 M.d, .int .i64 M.f, .int .i64 M.n, .int .i64 M.c, .slice A k c]) ∧ k ≤ c ∧ RI w' w'.heap.size A k M.l ∧ Below w.heap.size w w' := by
  have hX : Below w.heap.size w (w.alloc (.cells #[.int .i64 0, .int .i64 0, .int .i64 0, .int .i64 0, .slice none 0 0] 41)) := (Below.refl _ _).alloc (Nat.le_refl _) _
  have HM := Lib.hid (head_any api (h.at_.below api hX) hM)
  have HX := Lib.hid hX
  have HZ := Lib.hid (show (w.alloc (.cells #[.int .i64 0, .int .i64 0, .int .i64 0, .int .i64 0, .slice none 0 0] 41)).heap[w.heap.size]? = some (.cells #[.int .i64 0, .int .i64 0, .int .i64 0, .int .i64 0, .slice none 0 0] 41 (0, 0)) from heap_alloc_new _ _)
  clear h hM hX
  go_enter Tryz.func14, Tryz.ntmps14
  go_wp2_with fail
  refine HM.out.mono ?_
  rintro e w1 ⟨A, k, c, rfl, hkc, _, hri, hnew, hb1⟩
  have hz1 := (hb1.block w.heap.size (by simp)).trans HZ.out
  have HB := Lib.hid (HX.out.trans (hb1.mono HX.out.size))
  obtain ⟨d0, d1, d2, d3, d4, hf, hlt⟩ := cells_fiveM hz1
  have f0 := hf 0
  have f1 := hf 1
  have f2 := hf 2
  have f3 := hf 3
  have f4 := hf 4
  have hz3 := box_fiveM hz1 (.int .i64 M.d) (.int .i64 M.f) (.int .i64 M.n) (.int .i64 M.c) (.slice A k c)
  have hb3 := (((((HB.out.setCell (p := ⟨w.heap.size, 0, none⟩) (Nat.le_refl _) (.int .i64 M.d)).setCell (p := ⟨w.heap.size, 1, none⟩) (Nat.le_refl _) (.int .i64 M.f)).setCell (p := ⟨w.heap.size, 2, none⟩) (Nat.le_refl _) (.int .i64 M.n)).setCell (p := ⟨w.heap.size, 3, none⟩) (Nat.le_refl _) (.int .i64 M.c)).setCell (p := ⟨w.heap.size, 4, none⟩) (Nat.le_refl _) (.slice A k c))
  have hz4 := (Below.heap_alloc _ (.cells #[.int .i64 M.d, .int .i64 M.f, .int .i64 M.n, .int .i64 M.c, .slice A k c] 41) _ (Array.getElem?_eq_some_iff.1 hz3).1).trans hz3
  have hri3 : RI (((((w1.setCell ⟨w.heap.size, 0, none⟩ (.int .i64 M.d)).setCell ⟨w.heap.size, 1, none⟩ (.int .i64 M.f)).setCell ⟨w.heap.size, 2, none⟩ (.int .i64 M.n)).setCell ⟨w.heap.size, 3, none⟩ (.int .i64 M.c)).setCell ⟨w.heap.size, 4, none⟩ (.slice A k c)) (((((w1.setCell ⟨w.heap.size, 0, none⟩ (.int .i64 M.d)).setCell ⟨w.heap.size, 1, none⟩ (.int .i64 M.f)).setCell ⟨w.heap.size, 2, none⟩ (.int .i64 M.n)).setCell ⟨w.heap.size, 3, none⟩ (.int .i64 M.c)).setCell ⟨w.heap.size, 4, none⟩ (.slice A k c)).heap.size A k M.l := by
    have hsz : (((((w1.setCell ⟨w.heap.size, 0, none⟩ (.int .i64 M.d)).setCell ⟨w.heap.size, 1, none⟩ (.int .i64 M.f)).setCell ⟨w.heap.size, 2, none⟩ (.int .i64 M.n)).setCell ⟨w.heap.size, 3, none⟩ (.int .i64 M.c)).setCell ⟨w.heap.size, 4, none⟩ (.slice A k c)).heap.size = w1.heap.size := by simp [World.setCell]
    rw [hsz]
    refine ⟨hri.1, hri.2.1, fun hn => ?_⟩
    obtain ⟨bb, off, e, hbb, hc⟩ := hri.2.2 hn
    have hge := hnew _ e
    have hne : bb ≠ w.heap.size := fun e' => by
      have : (w.alloc (.cells #[.int .i64 0, .int .i64 0, .int .i64 0, .int .i64 0, .slice none 0 0] 41)).heap.size ≤ bb := hge
      simp at this
      omega
    refine ⟨bb, off, e, hbb, fun j hj => (World.cell?_of_block (a := ⟨bb, off + j, none⟩) ?_).trans (hc j hj)⟩
    rw [Below.heap_setCell _ _ _ _ hne, Below.heap_setCell _ _ _ _ hne, Below.heap_setCell _ _ _ _ hne, Below.heap_setCell _ _ _ _ hne, Below.heap_setCell _ _ _ _ hne]
  have hal : Below (((((w1.setCell ⟨w.heap.size, 0, none⟩ (.int .i64 M.d)).setCell ⟨w.heap.size, 1, none⟩ (.int .i64 M.f)).setCell ⟨w.heap.size, 2, none⟩ (.int .i64 M.n)).setCell ⟨w.heap.size, 3, none⟩ (.int .i64 M.c)).setCell ⟨w.heap.size, 4, none⟩ (.slice A k c)).heap.size (((((w1.setCell ⟨w.heap.size, 0, none⟩ (.int .i64 M.d)).setCell ⟨w.heap.size, 1, none⟩ (.int .i64 M.f)).setCell ⟨w.heap.size, 2, none⟩ (.int .i64 M.n)).setCell ⟨w.heap.size, 3, none⟩ (.int .i64 M.c)).setCell ⟨w.heap.size, 4, none⟩ (.slice A k c)) ((((((w1.setCell ⟨w.heap.size, 0, none⟩ (.int .i64 M.d)).setCell ⟨w.heap.size, 1, none⟩ (.int .i64 M.f)).setCell ⟨w.heap.size, 2, none⟩ (.int .i64 M.n)).setCell ⟨w.heap.size, 3, none⟩ (.int .i64 M.c)).setCell ⟨w.heap.size, 4, none⟩ (.slice A k c)).alloc (.cells #[.int .i64 M.d, .int .i64 M.f, .int .i64 M.n, .int .i64 M.c, .slice A k c] 41)) := (Below.refl _ _).alloc (Nat.le_refl _) _
  have HZ4 := Lib.hid hz4
  have HB4 := Lib.hid (And.intro hkc (And.intro ((hri3.below hal).more hal.size) (hb3.trans (hal.mono hb3.size))))
  clear hb1 hf hz3 hb3 hz4 hri hri3 hal hnew hkc
  go_wp2
  obtain ⟨e0, e1, e2, e3, e4, _, _⟩ := cells_fiveM HZ4.out
  have hB := HB4.out
  clear d0 d1 d2 d3 d4 f0 f1 f2 f3 f4 hz1 HZ4 HB4 HB hlt
  generalize (((((w1.setCell ⟨w.heap.size, 0, none⟩ (.int .i64 M.d)).setCell ⟨w.heap.size, 1, none⟩ (.int .i64 M.f)).setCell ⟨w.heap.size, 2, none⟩ (.int .i64 M.n)).setCell ⟨w.heap.size, 3, none⟩ (.int .i64 M.c)).setCell ⟨w.heap.size, 4, none⟩ (.slice A k c)).alloc (.cells #[.int .i64 M.d, .int .i64 M.f, .int .i64 M.n, .int .i64 M.c, .slice A k c] 41) = X at *
  exact bodyPost_ret (v := .agg #[.int .i64 M.d, .int .i64 M.f, .int .i64 M.n, .int .i64 M.c, .slice A k c]) (by simp [results, Tryz.results14, go_sem, e0, e1, e2, e3, e4]) rfl ⟨A, k, c, rfl, hB⟩
set_option maxHeartbeats 400000 in
theorem store_len (api : DiskApi D) (h : Top D w F O p S q seq r b st L) {M : MV} (hM : HeadIs S L M) :
    Calls Tryz.prog 21 #[.pointer (some ⟨st, 0, none⟩)] w fun e w' => e = .returned (.int .i64 M.c) ∧ Below w.heap.size w w' := by
  have HM := Lib.hid (store_meta api h hM)
  clear h hM
  go_enter Tryz.func21, Tryz.ntmps21
  go_wp2_with fail
  refine HM.out.mono ?_
  rintro e w1 ⟨A, k, c, rfl, _, _, hb1⟩
  have hf := metaCount_run M.d M.f M.n M.c A k c w1
  have HE := Lib.hid hb1
  clear hb1
  go_wp2_with fail
  go_ret
  exact ⟨rfl, HE.out⟩
end
end Go.Proofs.YtinhdimalhfgkaaGreatDoor

/-
  A store is made: contracts of Format's own step, of its three steps in turn, and of Format. Conditions: numbers and lengths are ints; there is room; each step succeeds.
-/
namespace Go.Proofs.YtinhdimalhfgkaaGreatDoor
open Go.RowKit
set_option maxRecDepth 100000
set_option linter.unusedVariables false

set_option maxHeartbeats 1600000 in
theorem inTurn3 {w : World} {g cap ch bx : Nat} {P1 P2 P3 : World → Prop} (hc : 3 ≤ cap) (c0 : w.cell? ⟨g, 0, none⟩ = some (.func (.func 86) #[.pointer (some ⟨ch, 0, none⟩)] #[])) (c1 : ∀ w1, P1 w1 → w1.cell? ⟨g, 1, none⟩ = some (.func (.func 87) #[] #[.pointer (some ⟨bx, 0, none⟩)])) (c2 : ∀ w1, P2 w1 → w1.cell? ⟨g, 2, none⟩ = some (.func (.func 65) #[.pointer (some ⟨ch, 0, none⟩)] #[]))
    (h0 : Calls Tryz.prog 86 #[.pointer (some ⟨ch, 0, none⟩)] w fun e w' => e = .returned (.int .i64 0) ∧ P1 w') (h1 : ∀ w1, P1 w1 → Calls Tryz.prog 87 #[.pointer (some ⟨bx, 0, none⟩)] w1 fun e w' => e = .returned (.int .i64 0) ∧ P2 w') (h2 : ∀ w1, P2 w1 → Calls Tryz.prog 65 #[.pointer (some ⟨ch, 0, none⟩)] w1 fun e w' => e = .returned (.int .i64 0) ∧ P3 w') :
    Calls Tryz.prog 85 #[.slice (some ⟨g, 0, none⟩) 3 cap] w fun e w' => e = .returned (.int .i64 0) ∧ P3 w' := by
  have H0 := Lib.hid h0
  have H1 := Lib.hid h1
  have H2 := Lib.hid h2
  have C1 := Lib.hid c1
  have C2 := Lib.hid c2
  have C0 := Lib.hid c0
  clear h0 h1 h2 c1 c2 c0
  go_enter Tryz.func85, Tryz.ntmps85
  go_wp2_with fail
  go_loopw [8] (fun i wr => ∃ k : Nat, k ≤ 3 ∧ i = .int .i64 k ∧ Hid ((k = 0 ∧ w = wr) ∨ (k = 1 ∧ P1 wr) ∨ (k = 2 ∧ P2 wr) ∨ (k = 3 ∧ P3 wr))) (fun i _ => 3 - (intOf i).toNat)
  case atStart => exact ⟨0, by omega, rfl, Lib.hid (.inl ⟨rfl, rfl⟩)⟩
  case round =>
    obtain ⟨k, hk, rfl, hJ⟩ := hrel
    rcases hJ.out with ⟨rfl, rfl⟩ | ⟨rfl, hp⟩ | ⟨rfl, hp⟩ | ⟨rfl, hp⟩
    · have z := C0.out
      go_wp2_with fail
      refine H0.out.mono ?_
      rintro e w1 ⟨rfl, hp1⟩
      have HP := Lib.hid hp1
      clear hp1 z
      go_wp2_with fail
      go_roundw
      case rel => exact ⟨1, by omega, by go_num, Lib.hid (.inr (.inl ⟨rfl, HP.out⟩))⟩
      case measure => simp [intOf]
    · have z := C1.out wr hp
      have HD := Lib.hid (H1.out wr hp)
      clear hp
      go_wp2_with fail
      refine HD.out.mono ?_
      rintro e w1 ⟨rfl, hp1⟩
      have HP := Lib.hid hp1
      clear hp1 z
      go_wp2_with fail
      go_roundw
      case rel => exact ⟨2, by omega, by go_num, Lib.hid (.inr (.inr (.inl ⟨rfl, HP.out⟩)))⟩
      case measure => simp [intOf]
    · have z := C2.out wr hp
      have HD := Lib.hid (H2.out wr hp)
      clear hp
      go_wp2_with fail
      refine HD.out.mono ?_
      rintro e w1 ⟨rfl, hp1⟩
      have HP := Lib.hid hp1
      clear hp1 z
      go_wp2_with fail
      go_roundw
      case rel => exact ⟨3, by omega, by go_num, Lib.hid (.inr (.inr (.inr ⟨rfl, HP.out⟩)))⟩
      case measure => simp [intOf]
    · have HP := Lib.hid hp
      clear hp
      go_wp2_with fail
      go_ret
      exact ⟨rfl, HP.out⟩
section
variable {D : World → (Nat → Prop) → Addr → DS → Prop} {w0 w w' : World} {F O : Nat → Prop} {p : Addr} {S : DS} {q r b st ch mb : Nat} {seq : Int} {L : List (Int × List Int)} {M M' : MV} {v v' sv : Value} {ns : Nat} {SL : Int → Option Int} {fs : List Value} {ss : List Stp}
set_option maxHeartbeats 1600000 in
theorem formatStep (api : DiskApi D) (hS : SAt D w0 F O p S q seq r b st L) (h : Gath w0 w ch st mb M M' v v' sv ns SL fs ss) {bx : Nat} (hbx : w.heap[bx]? = some (.cells #[.pointer (some ⟨ch, 0, none⟩)] 116 (0, 0))) (hnx : ¬ GX ch mb v' sv bx)
    (hn : 0 ≤ M'.n ∧ M'.n < 4611686018427387904) (hf : -9223372036854775808 ≤ M'.f ∧ M'.f ≤ 9223372036854775807) {pg : Int} {M2 : MV} (ht : TakeIs S L M' pg M2) (hpg : -9223372036854775808 ≤ pg ∧ pg ≤ 9223372036854775807) (hmay : mayBk ⟨0, 0, []⟩ = true) (hm : fs.length + 2 ≤ 4000000) (hns : ns < 4000000) :
    Calls Tryz.prog 87 #[.pointer (some ⟨bx, 0, none⟩)] w fun e w' => e = .returned (.int .i64 0) ∧ ∃ sv2 fs2, Gath w0 w' ch st mb M M2 v v' sv2 (ns + 1) (fun i => if i = 0 then some pg else SL i) fs2 (ss ++ [.pt 0 pg] ++ [.lay pg (pageBk ⟨0, 0, []⟩)]) ∧ fs2.length = fs.length + 2 ∧ Went w0.heap.size w.heap.size ch mb v' sv v' sv2 fs fs2 ss (ss ++ [.pt 0 pg] ++ [.lay pg (pageBk ⟨0, 0, []⟩)]) w w' := by
  have HTK := Lib.hid (take_g api hS h hn hf ht)
  have hbl : bx < w.heap.size := (Array.getElem?_eq_some_iff.1 hbx).1
  have z0 : w.cell? ⟨bx, 0, none⟩ = some (.pointer (some ⟨ch, 0, none⟩)) := by rw [cell_of_row _ _ 0 _ _ (0, 0) hbx]; rfl
  have HX := Lib.hid hnx
  clear h hbx hnx ht hS
  go_enter Tryz.func87, Tryz.ntmps87
  go_wp2_with fail
  refine HTK.out.mono ?_
  rintro e w1 ⟨rfl, hg1, hw1⟩
  have z1 := (World.cell?_of_block (a := ⟨bx, 0, none⟩) (hw1.touch.block bx hbl HX.out)).trans z0
  have HPT := Lib.hid (point_g hg1 0 pg (by decide) hpg (by omega) hns)
  have HW1 := Lib.hid hw1
  clear hg1 hw1 HTK
  go_wp2_with fail
  refine HPT.out.mono ?_
  rintro e w2 ⟨rfl, sv2, f2, hg2, hw2⟩
  have hw02 := HW1.out.go hw2
  have z2 := (World.cell?_of_block (a := ⟨bx, 0, none⟩) (hw02.touch.block bx hbl HX.out)).trans z0
  have HKP := Lib.hid (keep_g hg2 (G := fun _ => False) (lf := .agg #[.int .i64 pg, .int .i64 0, .int .i64 0, .slice none 0 0]) (l := ⟨pg, 0, 0, []⟩) ⟨none, 0, 0, rfl, Nat.le_refl _, Nat.zero_le _, Stays.none_ _ _⟩ hpg (by show -9223372036854775808 ≤ (0 : Int) ∧ (0 : Int) ≤ 9223372036854775807; decide) (by show -9223372036854775808 ≤ (0 : Int) ∧ (0 : Int) ≤ 9223372036854775807; decide) hmay (by simp; omega))
  have HW2 := Lib.hid hw02
  clear hg2 hw2 hw02 HPT z1
  go_wp2_with fail
  refine HKP.out.mono ?_
  rintro e w3 ⟨rfl, sv3, f3, hg3, hw3⟩
  have HE := Lib.hid (And.intro hg3 (HW2.out.go hw3))
  clear hg3 hw3 HKP z2
  go_wp2_with fail
  go_ret
  exact ⟨rfl, sv3, _, HE.out.1, by simp, HE.out.2⟩
end
end Go.Proofs.YtinhdimalhfgkaaGreatDoor

/-
  A store is made: contract of Format. Conditions: there is room; each step succeeds.
-/
namespace Go.Proofs.YtinhdimalhfgkaaGreatDoor
open Go.RowKit
set_option maxRecDepth 100000
set_option linter.unusedVariables false

/-- The Meta that Format begins with. -/
def M00 : MV := ⟨0, 0, 1, 0, []⟩
section
variable {D : World → (Nat → Prop) → Addr → DS → Prop} {w w' : World} {F O : Nat → Prop} {p : Addr} {S : DS} {q r b : Nat} {seq : Int} {L : List (Int × List Int)}
set_option maxHeartbeats 3200000 in
theorem extFormat_any (api : DiskApi D) (hP : PgAt D w F O p S q seq r b L) (htab : TabF w F) (hlen : LenS S) (hout : ¬ O 1) {M1 M2 : MV} {ss1 : List Stp} {pg : Int} (hl1 : LenIs S L M00 M1 ss1) (hs1 : ss1.length ≤ 1000) (hn : 0 ≤ M1.n ∧ M1.n < 4611686018427387904) (hf : -9223372036854775808 ≤ M1.f ∧ M1.f ≤ 9223372036854775807) (ht : TakeIs S L M1 pg M2) (hpg : -9223372036854775808 ≤ pg ∧ pg ≤ 9223372036854775807) (hmay : mayBk ⟨0, 0, []⟩ = true)
    (hN : IntsM M2) (hmayM : mayB M2 = true) (hok : okS S M2 L (finS M00 M2 (ss1 ++ [.pt 0 pg] ++ [.lay pg (pageBk ⟨0, 0, []⟩)]))) :
    Calls Tryz.prog 36 #[.pointer (some ⟨r, 0, none⟩)] w fun e w' => ∃ st, e = .returned (.tuple #[.pointer (some ⟨st, 0, none⟩), .int .i64 0]) ∧ w.heap.size ≤ st ∧ TopAft D w F O p S q seq r b st (runS S M2 L (finS M00 M2 (ss1 ++ [.pt 0 pg] ++ [.lay pg (pageBk ⟨0, 0, []⟩)]))) w' := by
  obtain ⟨w1, hw1⟩ : ∃ w1, w1 = w.alloc (.cells #[.pointer (some ⟨r, 0, none⟩)] 48) := ⟨_, rfl⟩
  have hb1 : Below w.heap.size w w1 := by rw [hw1]; exact (Below.refl _ _).alloc (Nat.le_refl _) _
  have hst1 : StAt w1 w.heap.size r := by rw [hw1]; exact heap_alloc_new _ _
  have hT1 : Top D w1 F O p S q seq r b w.heap.size L := ⟨⟨hP.below api hb1, htab.below hb1, hlen.get hP.all, hst1, fun e => Nat.lt_irrefl _ (hP.lt _ e)⟩, hlen, hout⟩
  have HCO := Lib.hid (changeOf_any (w := w1) (st := w.heap.size) (A := none) (k := 0) (c := 0) M00 RI.nil_ (Nat.le_refl _) (Nat.zero_le _))
  have HT := Lib.hid hT1
  have HB1 := Lib.hid hb1
  have HFS := Lib.hid (show ∀ (w2 : World) (ch mb bx : Nat) (v v' sv : Value) (fs : List Value), Gath w1 w2 ch w.heap.size mb M00 M1 v v' sv 0 (fun _ => none) fs ss1 → w2.heap[bx]? = some (.cells #[.pointer (some ⟨ch, 0, none⟩)] 116 (0, 0)) → ¬ GX ch mb v' sv bx → fs.length ≤ 1000 →
      Calls Tryz.prog 87 #[.pointer (some ⟨bx, 0, none⟩)] w2 fun e w' => e = .returned (.int .i64 0) ∧ ∃ sv2 fs2, Gath w1 w' ch w.heap.size mb M00 M2 v v' sv2 1 (fun i => if i = 0 then some pg else none) fs2 (ss1 ++ [.pt 0 pg] ++ [.lay pg (pageBk ⟨0, 0, []⟩)]) ∧ fs2.length = fs.length + 2 ∧ Went w1.heap.size w2.heap.size ch mb v' sv v' sv2 fs fs2 ss1 (ss1 ++ [.pt 0 pg] ++ [.lay pg (pageBk ⟨0, 0, []⟩)]) w2 w' from
    fun w2 ch mb bx v v' sv fs hg hb hx hm => formatStep api hT1.at_ hg hb hx hn hf ht hpg hmay (by omega) (by omega))
  have HLN := Lib.hid (show ∀ (w2 : World) (ch mb : Nat) (v v' sv : Value), Gath w1 w2 ch w.heap.size mb M00 M00 v v' sv 0 (fun _ => none) [] [] → Calls Tryz.prog 86 #[.pointer (some ⟨ch, 0, none⟩)] w2 fun e w' => e = .returned (.int .i64 0) ∧ ∃ v2 sv2 fs2, Gath w1 w' ch w.heap.size mb M00 M1 v v2 sv2 0 (fun _ => none) fs2 ss1 ∧ fs2.length = ss1.length ∧ Went w1.heap.size w2.heap.size ch mb v' sv v2 sv2 [] fs2 [] ss1 w2 w' from
    fun w2 ch mb v v' sv hg => (lengthen_g api hT1.at_ hg hl1 (by simp; omega)).mono fun e w' z => by
      obtain ⟨e1, v2, sv2, fs2, z1, z2, z3⟩ := z
      exact ⟨e1, v2, sv2, fs2, by simpa using z1, by simpa using z2, by simpa using z3⟩)
  have HFN := Lib.hid (show ∀ (w2 : World) (ch mb : Nat) (v v' sv : Value) (fs : List Value), Gath w1 w2 ch w.heap.size mb M00 M2 v v' sv 1 (fun i => if i = 0 then some pg else none) fs (ss1 ++ [.pt 0 pg] ++ [.lay pg (pageBk ⟨0, 0, []⟩)]) → fs.length ≤ 1002 → Calls Tryz.prog 65 #[.pointer (some ⟨ch, 0, none⟩)] w2 fun e w' => e = .returned (.int .i64 0) ∧ TopAft D w1 F O p S q seq r b w.heap.size (runS S M2 L (finS M00 M2 (ss1 ++ [.pt 0 pg] ++ [.lay pg (pageBk ⟨0, 0, []⟩)]))) w' from
    fun w2 ch mb v v' sv fs hg hm => (finish_g api hT1.at_ hg hT1.len (fun k hk => hT1.at_.pg.lt k hk) hT1.out hN hmayM (by omega) hok).mono fun e w' z => ⟨z.1, hT1.did z.2⟩)
  generalize runS S M2 L (finS M00 M2 (ss1 ++ [.pt 0 pg] ++ [.lay pg (pageBk ⟨0, 0, []⟩)])) = L2 at HFN ⊢
  clear hP htab hlen hout hl1 hn hf ht hpg hmay hN hmayM hok hb1 hst1 hT1
  unfold M00 at HCO
  go_enter Tryz.func36, Tryz.ntmps36
  go_wp2_with fail
  rw [← hw1]
  clear hw1
  refine HCO.out.mono ?_
  rintro e w2 ⟨v', rfl, hg2⟩
  obtain ⟨ch, hch⟩ : ∃ ch, ch = w1.heap.size + 2 := ⟨_, rfl⟩
  obtain ⟨mb, hmb⟩ : ∃ mb, mb = w1.heap.size + 1 := ⟨_, rfl⟩
  rw [← hch, ← hmb] at hg2
  rw [← hch]
  have hg2 : Gath w1 w2 ch w.heap.size mb M00 M00 (.slice none 0 0) v' (.slice none 0 0) 0 (fun _ => none) [] [] := hg2
  obtain ⟨w3, hw3⟩ : ∃ w3, w3 = w2.alloc (.cells #[.pointer (some ⟨ch, 0, none⟩)] 116) := ⟨_, rfl⟩
  obtain ⟨w4, hw4⟩ : ∃ w4, w4 = w3.alloc (.cells #[.func (.func 86) #[.pointer (some ⟨ch, 0, none⟩)] #[], .func (.func 87) #[] #[.pointer (some ⟨w2.heap.size, 0, none⟩)], .func (.func 65) #[.pointer (some ⟨ch, 0, none⟩)] #[]] 78) := ⟨_, rfl⟩
  have hb3 : Below w2.heap.size w2 w3 := by rw [hw3]; exact (Below.refl _ _).alloc (Nat.le_refl _) _
  have hz3 : w3.heap.size = w2.heap.size + 1 := by rw [hw3]; simp
  have hb4 : Below w2.heap.size w2 w4 := by rw [hw4]; exact hb3.alloc hb3.size _
  have hz4 : w4.heap.size = w2.heap.size + 2 := by rw [hw4]; simp; omega
  have hbx : w4.heap[w2.heap.size]? = some (.cells #[.pointer (some ⟨ch, 0, none⟩)] 116 (0, 0)) := by
    rw [hw4]
    exact (Below.heap_alloc _ _ _ (by omega)).trans (by rw [hw3]; exact heap_alloc_new _ _)
  have hrow : w4.heap[w2.heap.size + 1]? = some (.cells #[.func (.func 86) #[.pointer (some ⟨ch, 0, none⟩)] #[], .func (.func 87) #[] #[.pointer (some ⟨w2.heap.size, 0, none⟩)], .func (.func 65) #[.pointer (some ⟨ch, 0, none⟩)] #[]] 78 (0, 0)) := by
    rw [hw4, ← hz3]
    exact heap_alloc_new _ _
  have hlt := hg2.lt
  have hx0 : ¬ GX ch mb v' (.slice none 0 0) w2.heap.size := fun e => Nat.lt_irrefl _ (hlt _ e).2
  have hx1 : ¬ GX ch mb v' (.slice none 0 0) (w2.heap.size + 1) := fun e => by have := (hlt _ e).2; omega
  have hg4 := hg2.keep hb4
  have hcell : ∀ W : World, W.heap[w2.heap.size + 1]? = some (.cells #[.func (.func 86) #[.pointer (some ⟨ch, 0, none⟩)] #[], .func (.func 87) #[] #[.pointer (some ⟨w2.heap.size, 0, none⟩)], .func (.func 65) #[.pointer (some ⟨ch, 0, none⟩)] #[]] 78 (0, 0)) → W.cell? ⟨w2.heap.size + 1, 0, none⟩ = some (.func (.func 86) #[.pointer (some ⟨ch, 0, none⟩)] #[]) ∧ W.cell? ⟨w2.heap.size + 1, 1, none⟩ = some (.func (.func 87) #[] #[.pointer (some ⟨w2.heap.size, 0, none⟩)]) ∧ W.cell? ⟨w2.heap.size + 1, 2, none⟩ = some (.func (.func 65) #[.pointer (some ⟨ch, 0, none⟩)] #[]) := fun W h => ⟨by rw [cell_of_row _ _ _ _ _ (0, 0) h]; rfl, by rw [cell_of_row _ _ _ _ _ (0, 0) h]; rfl, by rw [cell_of_row _ _ _ _ _ (0, 0) h]; rfl⟩
  have HTURN := Lib.hid (inTurn3 (w := w4) (g := w2.heap.size + 1) (cap := 3) (ch := ch) (bx := w2.heap.size)
    (P1 := fun wr => ∃ v2 sv2 fs2, Gath w1 wr ch w.heap.size mb M00 M1 (.slice none 0 0) v2 sv2 0 (fun _ => none) fs2 ss1 ∧ fs2.length = ss1.length ∧ wr.heap[w2.heap.size]? = some (.cells #[.pointer (some ⟨ch, 0, none⟩)] 116 (0, 0)) ∧ ¬ GX ch mb v2 sv2 w2.heap.size ∧ wr.heap[w2.heap.size + 1]? = some (.cells #[.func (.func 86) #[.pointer (some ⟨ch, 0, none⟩)] #[], .func (.func 87) #[] #[.pointer (some ⟨w2.heap.size, 0, none⟩)], .func (.func 65) #[.pointer (some ⟨ch, 0, none⟩)] #[]] 78 (0, 0)) ∧ ¬ GX ch mb v2 sv2 (w2.heap.size + 1))
    (P2 := fun wr => ∃ v2 sv2 fs2, Gath w1 wr ch w.heap.size mb M00 M2 (.slice none 0 0) v2 sv2 1 (fun i => if i = 0 then some pg else none) fs2 (ss1 ++ [.pt 0 pg] ++ [.lay pg (pageBk ⟨0, 0, []⟩)]) ∧ fs2.length = ss1.length + 2 ∧ wr.heap[w2.heap.size + 1]? = some (.cells #[.func (.func 86) #[.pointer (some ⟨ch, 0, none⟩)] #[], .func (.func 87) #[] #[.pointer (some ⟨w2.heap.size, 0, none⟩)], .func (.func 65) #[.pointer (some ⟨ch, 0, none⟩)] #[]] 78 (0, 0)))
    (P3 := fun wr => TopAft D w1 F O p S q seq r b w.heap.size L2 wr) (Nat.le_refl _) (hcell w4 hrow).1 (fun wr h => by obtain ⟨_, _, _, _, _, _, _, h5, _⟩ := h; exact (hcell wr h5).2.1) (fun wr h => by obtain ⟨_, _, _, _, _, h3⟩ := h; exact (hcell wr h3).2.2)
    ((HLN.out w4 ch mb _ v' _ hg4).mono fun e wr z => by
      obtain ⟨e1, v2, sv2, fs2, z1, z2, z3⟩ := z
      exact ⟨e1, v2, sv2, fs2, z1, z2, (z3.touch.block _ (by omega) hx0).trans hbx, fun q => by
        rcases z3.own _ q with a | a
        · exact hx0 a
        · omega, (z3.touch.block _ (by omega) hx1).trans hrow, fun q => by
        rcases z3.own _ q with a | a
        · exact hx1 a
        · omega⟩)
    (fun wr h => by
      obtain ⟨v2, sv2, fs2, z1, z2, z3, z4, z5, z6⟩ := h
      refine (HFS.out wr ch mb w2.heap.size _ v2 sv2 fs2 z1 z3 z4 (by omega)).mono fun e W y => ?_
      obtain ⟨e1, sv3, fs3, y1, y2, y3⟩ := y
      exact ⟨e1, v2, sv3, fs3, y1, by omega, (y3.touch.block _ (Array.getElem?_eq_some_iff.1 z5).1 z6).trans z5⟩)
    (fun wr h => by
      obtain ⟨v2, sv2, fs2, z1, z2, z3⟩ := h
      exact HFN.out wr ch mb _ v2 sv2 fs2 z1 (by omega)))
  have b0 : w3.cell? ⟨w2.heap.size, 0, none⟩ = some (.pointer (some ⟨ch, 0, none⟩)) := by rw [hw3, cell_of_row _ _ 0 _ _ (0, 0) (heap_alloc_new _ _)]; rfl
  have b0' := b0
  rw [hw3] at b0'
  clear hg2 hb3 hb4 hz4 hbx hrow hlt hx0 hx1 hg4 hcell HLN HFS HFN HCO hch hmb
  go_wp2_with fail
  rw [← hw3, ← hw4]
  clear hw3 hw4 b0 b0' hz3
  refine HTURN.out.mono ?_
  rintro e w5 ⟨rfl, O', t1, t2, t3⟩
  have HE := Lib.hid (show TopAft D w F O p S q seq r b w.heap.size L2 w5 from ⟨O', t1, ⟨t2.os.trans HB1.out.os, t2.tape.trans HB1.out.tape, t2.output.trans HB1.out.output, Nat.le_trans HB1.out.size t2.size, fun k hk hn => (t2.block k (Nat.lt_of_lt_of_le hk HB1.out.size) hn).trans (HB1.out.block k hk)⟩, fun k hk => by
    rcases t3 k hk with a | a
    · exact .inl a
    · exact .inr (Nat.le_trans HB1.out.size a)⟩)
  clear t1 t2 t3 HTURN
  go_wp2_with fail
  go_ret2
  exact ⟨_, rfl, Nat.le_refl _, HE.out⟩
end
end Go.Proofs.YtinhdimalhfgkaaGreatDoor
