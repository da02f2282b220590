/-
  The texts KvC, KvD, KvE, KvL, KvP joined. Conditions: those that each part says at its head.
-/
import Derived.Test.YtinhdimalhfgkaaGreatDoorG44
import Derived.Test.YtinhdimalhfgkaaGreatDoorG15
import Derived.Test.YtinhdimalhfgkaaGreatDoorG42
import Derived.Test.YtinhdimalhfgkaaGreatDoorG6

/-
  Write of a store on a disk where each put is done: contracts of ready, right, change, Write. Conditions: nothing is deleted; keys and values are of their lengths.
-/
namespace Go.Proofs.YtinhdimalhfgkaaGreatDoor
open Go.RowKit
set_option maxRecDepth 100000
set_option linter.unusedVariables false

section
variable {w w' : World} {kb st r g n c : Nat} {A : Option Addr} {G : Nat → Prop} {ps : List KV}
set_option maxHeartbeats 400000 in
theorem kvMade_any (h : KvAt w kb st) : Calls Tryz.prog 76 #[.pointer (some ⟨kb, 0, none⟩)] w fun e w' => e = .returned (.bool true) ∧ w = w' := by
  obtain ⟨c0, c1, _⟩ := h.cells
  clear h
  go_enter Tryz.func76, Tryz.ntmps76
  go_wp2
  go_ret
  exact ⟨rfl, rfl⟩
set_option maxHeartbeats 400000 in
theorem kvReady_any (h : KvAt w kb st) : Calls Tryz.prog 68 #[.pointer (some ⟨kb, 0, none⟩)] w fun e w' => e = .returned (.int .i64 0) ∧ w = w' := by
  obtain ⟨c0, c1, _⟩ := h.cells
  have HM := Lib.hid (kvMade_any h)
  clear h
  go_enter Tryz.func68, Tryz.ntmps68
  go_wp2_with fail
  refine HM.out.mono ?_
  rintro e w1 ⟨rfl, rfl⟩
  go_wp2
  go_ret
  exact ⟨rfl, rfl⟩
set_option maxHeartbeats 400000 in
theorem isKey_any (h : 1 ≤ n ∧ n ≤ 32) : Calls Tryz.prog 129 #[.slice A n c] w fun e w' => e = .returned (.bool true) ∧ w = w' := by
  have h1 : (1 : Int) ≤ (n : Int) := by omega
  have h2 : (n : Int) ≤ 32 := by omega
  go_enter Tryz.func129, Tryz.ntmps129
  go_wp2
  go_ret
  exact ⟨rfl, rfl⟩
set_option maxHeartbeats 3200000 in
theorem kvRight_any (h : Stays w G A n ps) (hn : n ≤ 1000000) (hl : ∀ x ∈ ps, (1 ≤ x.1.length ∧ x.1.length ≤ 32) ∧ x.2.length ≤ 120) :
    Calls Tryz.prog 73 #[.slice A n c, .slice none 0 0] w fun e w' => e = .returned (.bool true) ∧ Below w.heap.size w w' := by
  have HS := Lib.hid h
  have HL := Lib.hid hl
  clear h hl
  go_enter Tryz.func73, Tryz.ntmps73
  go_wp2_with fail
  go_loopw [11] (fun i wr => ∃ j : Nat, i = .int .i64 j ∧ j ≤ n ∧ Hid (Below w.heap.size w wr)) (fun i _ => n - (intOf i).toNat)
  case atStart => exact ⟨0, rfl, Nat.zero_le _, Lib.hid (Below.refl _ _)⟩
  case round =>
    obtain ⟨j, rfl, hj, HB⟩ := hrel
    by_cases hjn : j < n
    · obtain ⟨hpl, hp⟩ := (HS.out.below HB.out).pin
      obtain ⟨b, off, rfl, hb, hG, hall⟩ := hp (by omega)
      obtain ⟨x, hx⟩ : ∃ x, ps[j]? = some x := ⟨_, List.getElem?_eq_getElem (by omega)⟩
      obtain ⟨ka, kn, kc, va, vn, vc, c0, c1, r1, b1, r2, b2⟩ := hall j x hx
      obtain ⟨⟨l1, l2⟩, l3⟩ := HL.out x (List.mem_iff_getElem?.2 ⟨j, hx⟩)
      have e1 : kn = x.1.length := r1.1.len.symm
      have e2 : vn = x.2.length := r2.1.len.symm
      have HIK := Lib.hid (fun W => isKey_any (w := W) (A := ka) (n := kn) (c := kc) ⟨by omega, by omega⟩)
      have hv : ¬ (120 : Int) < (vn : Int) := by omega
      have HJ := Lib.hid (show j + 1 ≤ n from hjn)
      have HBX := Lib.hid (show Below w.heap.size w (wr.alloc (.cells #[.slice ka kn kc, .slice va vn vc] 95)) from HB.out.alloc HB.out.size _)
      clear hpl hp hb hG hall hx r1 b1 r2 b2 l1 l2 l3 e1 e2
      go_wp2_with fail
      refine (HIK.out _).mono ?_
      rintro e w1 ⟨rfl, rfl⟩
      go_wp2
      go_roundw
      case rel => exact ⟨j + 1, by go_num, HJ.out, HBX⟩
      case measure => simp [intOf]; omega
    · obtain rfl : j = n := by omega
      go_wp2_with fail
      go_loopw [28] (fun i wr => i = .int .i64 0 ∧ Hid (Below w.heap.size w wr)) (fun _ _ => 0)
      case atStart => exact ⟨rfl, HB⟩
      case round =>
        obtain ⟨rfl, HB2⟩ := hrel
        go_wp2
        go_ret
        exact ⟨rfl, HB2.out⟩
set_option maxHeartbeats 3200000 in
/-- change, its puts one by one. -/
theorem kvChange_any {T : Nat → World → Prop} {R : World → Prop} (hn : n ≤ 1000000) (h0 : T 0 w) (hbl : ∀ j W W', T j W → Below W.heap.size W W' → T j W') (hkv : ∀ j W, T j W → KvAt W kb st ∧ StAt W st r)
    (hput : ∀ j W, j < n → T j W → ∃ ka kn kc va vn vc, W.cell? ⟨g, j * 2, none⟩ = some (.slice ka kn kc) ∧ W.cell? ⟨g, j * 2 + 1, none⟩ = some (.slice va vn vc) ∧ ∀ W', Below W.heap.size W W' → Calls Tryz.prog 20 #[.pointer (some ⟨st, 0, none⟩), .slice ka kn kc, .slice va vn vc] W' fun e w'' => e = .returned (.int .i64 0) ∧ T (j + 1) w'' ∧ ∀ k, W.heap.size ≤ k → k < W'.heap.size → w''.heap[k]? = W'.heap[k]?)
    (hcom : ∀ W, T n W → Calls Tryz.prog 37 #[.pointer (some ⟨r, 0, none⟩)] W fun e w' => e = .returned (.int .i64 0) ∧ R w') :
    Calls Tryz.prog 74 #[.pointer (some ⟨kb, 0, none⟩), .slice (some ⟨g, 0, none⟩) n c, .slice none 0 0] w fun e w' => e = .returned (.int .i64 0) ∧ R w' := by
  have HP := Lib.hid hput
  have HC := Lib.hid hcom
  have HV := Lib.hid hkv
  have H0 := Lib.hid h0
  have HBL := Lib.hid hbl
  clear hput hcom hkv h0 hbl
  go_enter Tryz.func74, Tryz.ntmps74
  go_wp2_with fail
  go_loopw [16] (fun i wr => i = .int .i64 0 ∧ Hid (T 0 wr)) (fun _ _ => 0)
  case atStart => exact ⟨rfl, H0⟩
  case round =>
    obtain ⟨rfl, H1⟩ := hrel
    obtain ⟨w1, hw1⟩ : ∃ w1, w1 = wr := ⟨_, rfl⟩
    subst hw1
    go_wp2_with fail
    go_loopw [35] (fun i wr => ∃ j : Nat, i = .int .i64 j ∧ j ≤ n ∧ Hid (T j wr)) (fun i _ => n - (intOf i).toNat)
    case atStart => exact ⟨0, rfl, Nat.zero_le _, H1⟩
    case round =>
      obtain ⟨j, rfl, hj, HT⟩ := hrel
      by_cases hjn : j < n
      · obtain ⟨ka, kn, kc, va, vn, vc, c0, c1, hp⟩ := HP.out j wr hjn HT.out
        obtain ⟨k0, k1, k2⟩ := ((HV.out j wr HT.out).1).cells
        have hbx : Below wr.heap.size wr (wr.alloc (.cells #[.slice ka kn kc, .slice va vn vc] 95)) := (Below.refl _ _).alloc (Nat.le_refl _) _
        have HPU := Lib.hid (hp _ hbx.drew)
        have kk := (hbx.cell (p := ⟨kb, 0, none⟩) k2).trans k0
        have hbb := heap_alloc_new wr (.cells #[.slice ka kn kc, .slice va vn vc] 95)
        have HJ := Lib.hid (show j + 1 ≤ n from hjn)
        obtain ⟨X, hX⟩ : ∃ X, X = wr.alloc (.cells #[.slice ka kn kc, .slice va vn vc] 95) := ⟨_, rfl⟩
        rw [← hX] at hbb kk HPU hbx
        have b0 : X.cell? ⟨wr.heap.size, 0, none⟩ = some (.slice ka kn kc) := by rw [cell_of_row _ wr.heap.size 0 _ _ (0, 0) hbb]; rfl
        have b1 : X.cell? ⟨wr.heap.size, 1, none⟩ = some (.slice va vn vc) := by rw [cell_of_row _ wr.heap.size 1 _ _ (0, 0) hbb]; rfl
        have hXs : wr.heap.size < X.heap.size := by rw [hX]; simp
        have HK := Lib.hid (fun w2 (hT : T (j + 1) w2) (hk : ∀ k, wr.heap.size ≤ k → k < X.drew.heap.size → w2.heap[k]? = X.drew.heap[k]?) => show w2.cell? ⟨kb, 0, none⟩ = some (.pointer (some ⟨st, 0, none⟩)) ∧ w2.cell? ⟨wr.heap.size, 0, none⟩ = some (.slice ka kn kc) ∧ w2.cell? ⟨wr.heap.size, 1, none⟩ = some (.slice va vn vc) from
          ⟨(HV.out _ w2 hT).1.cells.1, (World.cell?_of_block (a := ⟨wr.heap.size, 0, none⟩) (hk _ (Nat.le_refl _) hXs)).trans b0, (World.cell?_of_block (a := ⟨wr.heap.size, 1, none⟩) (hk _ (Nat.le_refl _) hXs)).trans b1⟩)
        have y0 := And.intro kk (And.intro b0 b1)
        clear k0 k1 k2 hbb kk b0 b1 hXs hp hbx
        go_wp2_with fail
        rw [← hX]
        clear hX
        go_region_held3 (fun W => W.cell? ⟨kb, 0, none⟩ = some (.pointer (some ⟨st, 0, none⟩)) ∧ W.cell? ⟨wr.heap.size, 0, none⟩ = some (.slice ka kn kc) ∧ W.cell? ⟨wr.heap.size, 1, none⟩ = some (.slice va vn vc))
          (first | exact y0 | exact y1)
          (first
            | (go_at_call 20; refine HPU.out.mono ?_; rintro e w2 ⟨rfl, hT2, hk2⟩; have y1 := HK.out w2 hT2 hk2))
        have HT2 := Lib.hid hT2
        clear hT2 hk2 HK HPU y0
        go_wp2
        go_roundw
        case rel => exact ⟨j + 1, by go_num, HJ.out, HT2⟩
        case measure => simp [intOf]; omega
      · obtain rfl : j = n := by omega
        obtain ⟨k0, k1, k2⟩ := ((HV.out _ wr HT.out).1).cells
        have k3 := StAt.cell (HV.out _ wr HT.out).2
        have HCO := Lib.hid (HC.out wr HT.out)
        clear HC HP HV HBL H0 H1 HT k1 k2
        go_wp2_with fail
        refine HCO.out.mono ?_
        rintro e w2 ⟨rfl, hR⟩
        have HR := Lib.hid hR
        clear hR HCO
        go_wp2
        go_ret
        exact ⟨rfl, HR.out⟩
end
end Go.Proofs.YtinhdimalhfgkaaGreatDoor

/-
  The check of layer 13's laws: its store, a Put in it, its Write. Condition: there are 200 to 3000 pages.
-/
namespace Go.Proofs.YtinhdimalhfgkaaGreatDoor
open Go.RowKit
set_option maxRecDepth 100000
set_option linter.unusedVariables false

section
variable {D : World → (Nat → Prop) → Addr → DS → Prop} {w0 w w' : World} {F O : Nat → Prop} {p : Addr} {S : DS} {q r b st kb g n c : Nat} {seq : Int} {L L' : List (Int × List Int)} {ps : List KV}
/-- Put in a store with one bucket. -/
theorem shPut_any (api : DiskApi D) (hP : 200 ≤ S.P ∧ S.P ≤ 3000) (hn : 200 ≤ pagesOf S.n ∧ pagesOf S.n ≤ 3000) {c : Int} (hS : Shows S L c ps) (h : Top D w F O p S q seq r b st L) (hc : c = 0 ∨ c = 1) (hb : parseBk (awB ps) = (⟨0, 0, ps⟩, 0)) {ka va : Option Addr} {kn kc vn vc B B' : Nat} {x : KV} (hk : RB w B ka kn x.1) (hB : B ≤ w.heap.size) (hv : RB w B' va vn x.2) (hB' : B' ≤ w.heap.size) (hkc : kn ≤ kc ∧ kn ≤ maxLen) (hvc : vn ≤ vc ∧ vn ≤ maxLen) (hk1 : 1 ≤ kn ∧ kn ≤ 32) (hv1 : vn ≤ 120)
    (hno : findI ps x.1 < 0) (hfit : 8 + szP (ps ++ [x]) ≤ 240) (hln : ps.length ≤ 100) (hl : (awB (ps ++ [x])).length = 240) (hmay : mayBk ⟨0, 0, ps ++ [x]⟩ = true) :
    Calls Tryz.prog 20 #[.pointer (some ⟨st, 0, none⟩), .slice ka kn kc, .slice va vn vc] w fun e w' => e = .returned (.int .i64 0) ∧ ∃ L', TopAft D w F O p S q seq r b st L' w' ∧ Shows S L' (c + 1) (ps ++ [x]) ∧ L' ≠ [] := by
  have hc1 : c + 1 = 0 ∨ c + 1 = 1 ∨ c + 1 = 2 := by omega
  obtain ⟨ok, run, rne⟩ := hS.put (ps' := ps ++ [x]) hP hl (awM_len hc1)
  have ef : finS (awM c) (awM (c + 1)) [.lay 2 (awB (ps ++ [x]))] = [.lay 2 (awB (ps ++ [x])), .lay 0 (metaL (awM (c + 1)))] := finS_two (by rcases hc with rfl | rfl <;> decide) _
  rw [← ef] at ok run rne
  have one : ∀ (j : Nat) (y : Leaf), [(⟨2, 0, 0, ps⟩ : Leaf)][j]? = some y → y = ⟨2, 0, 0, ps⟩ := fun j y hj => by
    have hj0 : j = 0 := by
      have := (List.getElem?_eq_some_iff.1 hj).1
      simpa using this
    subst hj0
    simpa using hj.symm
  have hz : c < 9223372036854775807 ∧ -9223372036854775808 ≤ c := by omega
  exact (store_put api h (hS.head (by omega)) hk hB hv hB' hkc hvc hk1 hv1 (hS.chain hn hb x.1) (fun m l hm => by rw [one m l hm]; exact hno) ⟨hz.2, hz.1⟩ (m := 0) (l := ⟨2, 0, 0, ps⟩) rfl hfit (fun j y hj => by omega) (fun j y hj => by rw [one j y hj]; exact ⟨by show szP (ps ++ [x]) ≤ _; omega, by show ps.length ≤ _; omega⟩) ⟨by show (-9223372036854775808 : Int) ≤ 2; decide, by show (2 : Int) ≤ 9223372036854775807; decide⟩ ⟨by show (-9223372036854775808 : Int) ≤ 0; decide, by show (0 : Int) ≤ 9223372036854775807; decide⟩ ⟨by show (-9223372036854775808 : Int) ≤ 0; decide, by show (0 : Int) ≤ 9223372036854775807; decide⟩ hmay (awM_ints hc1) (awM_may hc1) ok).mono fun e w' z => ⟨z.1, _, z.2, run, rne⟩

/-- A store on a disk, its own blocks with it. -/
def KvO (D : World → (Nat → Prop) → Addr → DS → Prop) (w0 w : World) (F O : Nat → Prop) (p : Addr) (S : DS) (q : Nat) (seq : Int) (r b st kb : Nat) (L : List (Int × List Int)) : Prop :=
  Top D w F O p S q seq r b st L ∧ Below w0.heap.size w0 w ∧ (∀ k, O k → w0.heap.size ≤ k) ∧ KvAt w kb st ∧ ¬ O kb ∧ w0.heap.size ≤ kb
theorem KvO.below (api : DiskApi D) (h : KvO D w0 w F O p S q seq r b st kb L) (hb : Below w.heap.size w w') : KvO D w0 w' F O p S q seq r b st kb L := by
  obtain ⟨h1, h2, h3, h4, h5, h6⟩ := h
  exact ⟨h1.below api hb, h2.trans (hb.mono h2.size), h3, (hb.block kb h4.cells.2.2).trans h4, h5, h6⟩
theorem KvO.aft (h : KvO D w0 w F O p S q seq r b st kb L) (ha : TopAft D w F O p S q seq r b st L' w') : ∃ O', KvO D w0 w' F O' p S q seq r b st kb L' ∧ Touch O w w' ∧ ∀ k, O' k → O k ∨ w.heap.size ≤ k := by
  obtain ⟨h1, h2, h3, h4, h5, h6⟩ := h
  obtain ⟨O', a1, a2, a3⟩ := ha
  refine ⟨O', ⟨a1, h2.trans (Touch.below (B := w0.heap.size) a2 h3 h2.size), fun k hk => ?_, (a2.block kb h4.cells.2.2 h5).trans h4, fun e => ?_, h6⟩, a2, a3⟩
  · rcases a3 k hk with a | a
    · exact h3 k a
    · exact Nat.le_trans h2.size a
  · rcases a3 kb e with a | a
    · exact h5 a
    · have := h4.cells.2.2
      omega

def kAB : KV := ([97, 98], [120])
def kvL : List KV := [kAB, kB]
theorem parseA1 : parseBk (awB [kAB]) = (⟨0, 0, [kAB]⟩, 0) := by kernel_rfl
theorem parseA2 : parseBk (awB [kAB, kB]) = (⟨0, 0, [kAB, kB]⟩, 0) := by kernel_rfl
/-- The check's Write under way: j pairs are put. -/
def WrT (D : World → (Nat → Prop) → Addr → DS → Prop) (w0 : World) (F : Nat → Prop) (p : Addr) (S : DS) (q : Nat) (seq : Int) (r b st kb g j : Nat) (w : World) : Prop :=
  ∃ L O, KvO D w0 w F O p S q seq r b st kb L ∧ Shows S L (j : Int) (kvL.take j) ∧ Stays w O (some ⟨g, 0, none⟩) 2 kvL ∧ j ≤ 2 ∧ (j = 0 ∨ L ≠ [])
theorem WrT.below (api : DiskApi D) {j : Nat} (h : WrT D w0 F p S q seq r b st kb g j w) (hb : Below w.heap.size w w') : WrT D w0 F p S q seq r b st kb g j w' := by
  obtain ⟨L, O, h1, h2, h3, h4⟩ := h
  exact ⟨L, O, h1.below api hb, h2, h3.below hb, h4⟩
set_option maxHeartbeats 1600000 in
theorem WrT.put (api : DiskApi D) (hP : 200 ≤ S.P ∧ S.P ≤ 3000) (hn : 200 ≤ pagesOf S.n ∧ pagesOf S.n ≤ 3000) {j : Nat} (hj : j < 2) {W : World} (h : WrT D w0 F p S q seq r b st kb g j W) :
    ∃ ka kn kc va vn vc, W.cell? ⟨g, j * 2, none⟩ = some (.slice ka kn kc) ∧ W.cell? ⟨g, j * 2 + 1, none⟩ = some (.slice va vn vc) ∧ ∀ W', Below W.heap.size W W' → Calls Tryz.prog 20 #[.pointer (some ⟨st, 0, none⟩), .slice ka kn kc, .slice va vn vc] W' fun e w'' => e = .returned (.int .i64 0) ∧ WrT D w0 F p S q seq r b st kb g (j + 1) w'' ∧ ∀ k, W.heap.size ≤ k → k < W'.heap.size → w''.heap[k]? = W'.heap[k]? := by
  obtain ⟨L, O, h1, h2, h3, h4, h5⟩ := h
  obtain ⟨hpl, hp⟩ := h3.pin
  obtain ⟨g', off, e, hb, hG, hall⟩ := hp (by decide)
  obtain ⟨rfl, rfl⟩ : g = g' ∧ 0 = off := by
    injection e with e
    injection e with e1 e2
    exact ⟨e1, e2⟩
  obtain ⟨x, hx⟩ : ∃ x, kvL[j]? = some x := ⟨_, List.getElem?_eq_getElem (by rw [hpl]; exact hj)⟩
  obtain ⟨ka, kn, kc, va, vn, vc, c0, c1, r1, b1, r2, b2⟩ := hall j x hx
  rw [Nat.zero_add] at c0 c1
  refine ⟨ka, kn, kc, va, vn, vc, c0, c1, fun W' hW => ?_⟩
  have k1 := h1.below api hW
  have s1 := r1.below hW
  have s2 := r2.below hW
  have hst := h3.below hW
  have hOl : ∀ k, O k → k < W.heap.size := fun k hk => h1.1.at_.pg.lt k hk
  have e1 : x.1.length = kn := s1.1.len
  have e2 : x.2.length = vn := s2.1.len
  have hput : Calls Tryz.prog 20 #[.pointer (some ⟨st, 0, none⟩), .slice ka kn kc, .slice va vn vc] W' fun e w' => e = .returned (.int .i64 0) ∧ ∃ L', TopAft D W' F O p S q seq r b st L' w' ∧ Shows S L' ((j : Int) + 1) (kvL.take j ++ [x]) ∧ L' ≠ [] := by
    have hj2 : j = 0 ∨ j = 1 := by omega
    rcases hj2 with rfl | rfl
    · obtain rfl : kAB = x := by simpa [kvL] using hx
      have e1 : 2 = kn := e1
      have e2 : 1 = vn := e2
      subst e1 e2
      exact shPut_any api hP hn h2 k1.1 (.inl rfl) parse0 s1.1 (Nat.le_refl _) s2.1 (Nat.le_refl _) b1 b2 (by decide) (by decide) (by decide) (by decide) (by decide) (by decide +kernel) (by decide)
    · obtain rfl : kB = x := by simpa [kvL] using hx
      have e1 : 1 = kn := e1
      have e2 : 0 = vn := e2
      subst e1 e2
      exact shPut_any api hP hn h2 k1.1 (.inr rfl) parseA1 s1.1 (Nat.le_refl _) s2.1 (Nat.le_refl _) b1 b2 (by decide) (by decide) (by decide) (by decide) (by decide) (by decide +kernel) (by decide)
  refine hput.mono ?_
  rintro e w'' ⟨rfl, L', ha, hs, hne⟩
  obtain ⟨O', a1, a2, a3⟩ := k1.aft ha
  refine ⟨rfl, ⟨L', O', a1, ?_, hst.grow a2.size (fun k hk ho => a2.block k hk ho) (fun k hk ho ho' => ?_), by omega, .inr hne⟩, fun k hk hk' => a2.block k hk' (fun ho => by have := hOl k ho; omega)⟩
  · rw [List.take_add_one, hx]
    show Shows S L' (((j + 1 : Nat)) : Int) _
    rw [Int.natCast_add]
    exact hs
  · rcases a3 k ho' with a | a
    · exact ho a
    · omega
end
end Go.Proofs.YtinhdimalhfgkaaGreatDoor

/-
  The check of layer 13's laws: its Write. Condition: there are 200 to 3000 pages.
-/
namespace Go.Proofs.YtinhdimalhfgkaaGreatDoor
open Go.RowKit
set_option maxRecDepth 100000
set_option linter.unusedVariables false

section
variable {D : World → (Nat → Prop) → Addr → DS → Prop} {w0 w w' : World} {F O : Nat → Prop} {p : Addr} {S : DS} {q r b st kb g n c : Nat} {seq : Int} {L L' : List (Int × List Int)} {ps : List KV}
/-- What the check's Write leaves. -/
def Wrote2 (D : World → (Nat → Prop) → Addr → DS → Prop) (w0 : World) (p : Addr) (S : DS) (q : Nat) (seq : Int) (r b st kb : Nat) (w : World) : Prop :=
  ∃ F' S', KvT D w0 w F' p S' q (seq + 1) r b st kb [] ∧ Shows S' [] 2 kvL ∧ (∃ f, Kp S' f (seq + 1)) ∧ S'.n = S.n ∧ S'.writes ≤ S.writes + 65536
theorem WrT.commit (api : DiskApi D) (hn : 200 ≤ pagesOf S.n ∧ pagesOf S.n ≤ 3000) {f : Nat → List Int} (hK : Kp S f seq) (hs : seq < 999999) (hw : S.writes ≤ 900000) (h : WrT D w0 F p S q seq r b st kb g 2 w) :
    Calls Tryz.prog 37 #[.pointer (some ⟨r, 0, none⟩)] w fun e w' => e = .returned (.int .i64 0) ∧ Wrote2 D w0 p S q seq r b st kb w' := by
  obtain ⟨L, O, h1, h2, h3, h4, h5⟩ := h
  have hne : L ≠ [] := by
    rcases h5 with a | a
    · exact absurd a (by decide)
    · exact a
  have hT : KvT D w0 w F p S q seq r b st kb L := ⟨O, h1⟩
  obtain ⟨c1, c2, c3, c4, ⟨f', cK⟩, c5⟩ := hK.commit h1.1.at_.pg.up h1.1.at_.pg.all hne hs
  have hfew := few_set h1.1.at_.pg.up h1.1.at_.pg.all
  have hP : S.P = pagesOf S.n := rfl
  refine (hT.commit api hK hne hs (by omega)).mono fun e w' z => ⟨z.1, ?_⟩
  obtain ⟨_, F', hT'⟩ := z
  exact ⟨F', _, hT', h2.of_eq (fun i i0 i1 => c5 i i0 (by omega)), ⟨f', cK⟩, c3, by rw [c4]; omega⟩
set_option maxHeartbeats 3200000 in
theorem kvWrite_aw (api : DiskApi D) (hP : 200 ≤ S.P ∧ S.P ≤ 3000) (hn : 200 ≤ pagesOf S.n ∧ pagesOf S.n ≤ 3000) {f : Nat → List Int} (hK : Kp S f seq) (hs : seq < 999999) (hw : S.writes ≤ 900000) (h : WrT D w0 F p S q seq r b st kb g 0 w) :
    Calls Tryz.prog 27 #[.pointer (some ⟨kb, 0, none⟩), .slice (some ⟨g, 0, none⟩) 2 c, .slice none 0 0] w fun e w' => e = .returned (.int .i64 0) ∧ Wrote2 D w0 p S q seq r b st kb w' := by
  have HC := Lib.hid (fun W (h : WrT D w0 F p S q seq r b st kb g 0 W) => kvChange_any (T := fun j W => WrT D w0 F p S q seq r b st kb g j W) (R := fun W => Wrote2 D w0 p S q seq r b st kb W) (n := 2) (c := c) (by decide) h (fun j W W' h hb => h.below api hb) (fun j W h => by
    obtain ⟨L, O, h1, _⟩ := h
    exact ⟨h1.2.2.2.1, h1.1.at_.sto⟩) (fun j W hj h => h.put api hP hn hj) (fun W h => h.commit api hn hK hs hw))
  have HB := Lib.hid (fun W (hb : Below w.heap.size w W) => h.below api hb)
  obtain ⟨L, O, h1, h2, h3, h4, h5⟩ := h
  have HRY := Lib.hid (kvReady_any h1.2.2.2.1)
  have HRT := Lib.hid (kvRight_any (c := c) h3 (by decide) (by decide))
  clear h1 h2 h3 h4 h5 hP hn hK hs hw
  go_enter Tryz.func27, Tryz.ntmps27
  go_wp2_with fail
  refine HRY.out.mono ?_
  rintro e w1 ⟨rfl, rfl⟩
  go_wp2_with fail
  refine HRT.out.mono ?_
  rintro e w1 ⟨rfl, hb1⟩
  have HCH := Lib.hid (HC.out w1 (HB.out w1 hb1))
  clear hb1 HC HB HRT HRY
  go_wp2_with fail
  refine HCH.out.mono ?_
  rintro e w2 ⟨rfl, hR⟩
  have HR := Lib.hid hR
  clear hR HCH
  go_wp2
  go_ret
  exact ⟨rfl, HR.out⟩
end
end Go.Proofs.YtinhdimalhfgkaaGreatDoor

/-
  Contracts of the library's IndexFunc and DeleteFunc over pairs, with the closure of a disk's store (as XViewJ, XViewL have them of the view's). Condition: fewer than 2^32 pairs; what the closure says of each pair.
-/
namespace Go.Proofs.YtinhdimalhfgkaaGreatDoor
open Go.RowKit Go.Maps
set_option maxRecDepth 100000
set_option linter.unusedVariables false

def SVe (w : World) (X : Nat → Prop) (v : Value) (l : List Int) : Prop :=
  ∃ (A : Option Addr) (n c : Nat), v = .slice A n c ∧ n ≤ c ∧ n ≤ maxLen ∧ RB w w.heap.size A n l ∧ ∀ a, A = some a → 0 < n → ¬ X a.block
theorem SVe.keep {w w' : World} {X X' : Nat → Prop} {v : Value} {l : List Int} (h : SVe w X v l) (hs : w.heap.size ≤ w'.heap.size) (hX : ∀ k, k < w.heap.size → ¬ X k → ¬ X' k) (hk : ∀ k, k < w.heap.size → ¬ X k → w'.heap[k]? = w.heap[k]?) : SVe w' X' v l := by
  obtain ⟨A, n, c, rfl, h1, h2, h3, h4⟩ := h
  refine ⟨A, n, c, rfl, h1, h2, ⟨h3.1, h3.2.1, fun hn => ?_⟩, fun a ha hn => ?_⟩
  · obtain ⟨bb, o, e, hbb, hc⟩ := h3.2.2 hn
    exact ⟨bb, o, e, Nat.lt_of_lt_of_le hbb hs, fun j hj => (World.cell?_of_block (a := ⟨bb, o + j, none⟩) (hk bb hbb (h4 _ e hn))).trans (hc j hj)⟩
  · obtain ⟨bb, o, e, hbb, _⟩ := h3.2.2 hn
    rw [ha] at e
    cases e
    exact hX _ hbb (h4 _ ha hn)


def PairS (w : World) (Y : Nat → Prop) (us : List Value) (x : KV) : Prop := ∃ u1 u2, us = [u1, u2] ∧ SVe w Y u1 x.1 ∧ SVe w Y u2 x.2
theorem pairS_kept : KeptL PairS := by
  intro w w' Y Y' us x h hs hY hk
  obtain ⟨u1, u2, e, h1, h2⟩ := h
  exact ⟨u1, u2, e, h1.keep hs hY hk, h2.keep hs hY hk⟩

theorem info_pairS : (Tryz.prog.info? 95).map (fun i => (i.zero, i.size, i.bytes)) = some (some (.agg #[.slice none 0 0, .slice none 0 0]), 2, 48) := by kernel_rfl

/-- Block g is a row of cap pairs' cells, the first n pairs' being vs. -/
def RowE (w : World) (g n cap : Nat) (vs : List Value) : Prop := ∃ cur : Array Value, w.heap[g]? = some (.cells cur 95 (0, 0)) ∧ n ≤ cap ∧ cap ≤ maxLen ∧ cur.size = cap * 2 ∧ cur.toList.take (n * 2) = vs
/-- The pair x at place a of these cells. -/
def PairIe (w : World) (Y : Nat → Prop) (vs : List Value) (a : Nat) (x : KV) : Prop := ∃ u1 u2, vs[a * 2]? = some u1 ∧ vs[a * 2 + 1]? = some u2 ∧ SVe w Y u1 x.1 ∧ SVe w Y u2 x.2
section
variable {w w' : World} {Y : Nat → Prop} {g n cap base : Nat} {vs : List Value}
theorem RowE.len (h : RowE w g n cap vs) : vs.length = n * 2 := by
  obtain ⟨cur, _, h1, _, h2, rfl⟩ := h
  rw [List.length_take, Array.length_toList, h2]
  omega
theorem RowE.lt (h : RowE w g n cap vs) : g < w.heap.size := by
  obtain ⟨cur, h1, _⟩ := h
  exact (Array.getElem?_eq_some_iff.1 h1).1
theorem RowE.keep (h : RowE w g n cap vs) (e : w'.heap[g]? = w.heap[g]?) : RowE w' g n cap vs := by
  obtain ⟨cur, h1, h2⟩ := h
  exact ⟨cur, e.trans h1, h2⟩
theorem RowE.cell (h : RowE w g n cap vs) {k : Nat} {u : Value} (hu : vs[k]? = some u) : w.cell? ⟨g, k, none⟩ = some u := by
  have hl := h.len
  obtain ⟨cur, h1, h2, h3, h4, rfl⟩ := h
  have hk := (List.getElem?_eq_some_iff.1 hu).1
  rw [cell_of_row w g k cur _ (0, 0) h1, ← hu, List.getElem?_take, if_pos (by omega)]
  simp
theorem RowE.frozen (h : RowE w g n cap vs) (k : Nat) : w.frozen? ⟨g, k, none⟩ = false := by
  obtain ⟨cur, h1, _⟩ := h
  exact frozen_of_row w g k _ _ h1
theorem RowE.set2 (h : RowE w g n cap vs) {i : Nat} (hi : i < n) (u1 u2 : Value) : RowE ((w.setCell ⟨g, i * 2, none⟩ u1).setCell ⟨g, i * 2 + 1, none⟩ u2) g n cap ((vs.set (i * 2) u1).set (i * 2 + 1) u2) := by
  obtain ⟨cur, h1, h2, h3, h4, rfl⟩ := h
  have e1 := heap_setCell_same w g (i * 2) cur 95 u1 h1
  have e2 := heap_setCell_same _ g (i * 2 + 1) _ 95 u2 e1
  refine ⟨_, e2, h2, h3, by simpa using h4, ?_⟩
  simp only [Array.toList_setIfInBounds, List.take_set]
theorem PairIe.keep {a : Nat} {x : KV} (h : PairIe w Y vs a x) (ht : Touch (fun k => k = g) w w') (hY : Y g) : PairIe w' Y vs a x := by
  obtain ⟨u1, u2, h1, h2, h3, h4⟩ := h
  have hk : ∀ k, k < w.heap.size → ¬ Y k → w'.heap[k]? = w.heap[k]? := fun k hk hy => ht.block k hk fun e => hy (by rw [e]; exact hY)
  exact ⟨u1, u2, h1, h2, h3.keep ht.size (fun _ _ h => h) hk, h4.keep ht.size (fun _ _ h => h) hk⟩
theorem PairIe.of {us : List Value} {a : Nat} {x : KV} (h : PairIe w Y vs a x) (e1 : us[a * 2]? = vs[a * 2]?) (e2 : us[a * 2 + 1]? = vs[a * 2 + 1]?) : PairIe w Y us a x := by
  obtain ⟨u1, u2, h1, h2, h3⟩ := h
  exact ⟨u1, u2, e1.trans h1, e2.trans h2, h3⟩
theorem GRow.openE {l : List KV} (h : GRow PairS 95 2 w Y base (.slice (some ⟨g, 0, none⟩) n cap) l) : n = l.length ∧ base ≤ g ∧ Y g ∧ ∃ vs, RowE w g n cap vs ∧ ∀ a x, l[a]? = some x → PairIe w Y vs a x := by
  obtain ⟨vs, h1, h2⟩ := h.row
  have hY := h.own g rfl
  rcases h1.2 with ⟨e, h0⟩ | ⟨g', cap', cur, e, hb, hg, hc, hm, hs, htake⟩
  · cases e
  · cases e
    refine ⟨rfl, hb, hY, vs, ⟨cur, hg, hc, hm, hs, htake⟩, fun a x hx => ?_⟩
    obtain ⟨u1, u2, e3, s1, s2⟩ := h2 a x hx
    refine ⟨u1, u2, ?_, ?_, s1, s2⟩
    · have : ((vs.drop (a * 2)).take 2)[0]? = some u1 := by rw [e3]; rfl
      rw [List.getElem?_take, if_pos (by decide), List.getElem?_drop] at this
      simpa using this
    · have : ((vs.drop (a * 2)).take 2)[1]? = some u2 := by rw [e3]; rfl
      rw [List.getElem?_take, if_pos (by decide), List.getElem?_drop] at this
      simpa using this
theorem take_twoE {vs : List Value} {k : Nat} {a b : Value} (h1 : vs[k]? = some a) (h2 : vs[k + 1]? = some b) : (vs.drop k).take 2 = [a, b] := by
  obtain ⟨l1, rfl⟩ := List.getElem?_eq_some_iff.1 h1
  obtain ⟨l2, rfl⟩ := List.getElem?_eq_some_iff.1 h2
  rw [List.drop_eq_getElem_cons l1, List.drop_eq_getElem_cons l2]
  rfl
theorem GRow.shutE {l : List KV} (h : RowE w g n cap vs) (hl : l.length ≤ n) (hb : base ≤ g) (hY : Y g) (hp : ∀ a x, l[a]? = some x → PairIe w Y vs a x) : GRow PairS 95 2 w Y base (.slice (some ⟨g, 0, none⟩) l.length cap) l := by
  have hlen := h.len
  obtain ⟨cur, h1, h2, h3, h4, h5⟩ := h
  refine ⟨⟨vs.take (l.length * 2), ⟨by rw [List.length_take, hlen]; omega, .inr ⟨g, cap, cur, rfl, hb, h1, Nat.le_trans hl h2, h3, h4, by rw [← h5, List.take_take]; congr 1; omega⟩⟩, fun a x hx => ?_⟩, fun r hr => by
    simp [Value.ownBlock] at hr
    rw [← hr]
    exact hY⟩
  have ha := (List.getElem?_eq_some_iff.1 hx).1
  obtain ⟨u1, u2, e1, e2, s1, s2⟩ := hp a x hx
  exact ⟨u1, u2, take_twoE (by rw [List.getElem?_take, if_pos (by omega)]; exact e1) (by rw [List.getElem?_take, if_pos (by omega)]; exact e2), s1, s2⟩

/-- clear of the pairs from place i on. -/
theorem RowE.clear_ (h : RowE w g n cap vs) {i k : Nat} (hi : i < n) (ty : TypeId) :
    ∃ w', (Builtin.clear_ #[31] ty #[.slice (some ⟨g, i * 2, none⟩) (n - i) k]).run Tryz.prog w = .ok (.tuple #[]) w' ∧ (∃ vs', RowE w' g n cap vs' ∧ ∀ j, j < i * 2 → vs'[j]? = vs[j]?) ∧ Touch (fun k => k = g) w w' := by
  obtain ⟨i0, hi0, hz0, hz1, hz2⟩ := info_parts info_pairS
  obtain ⟨cur, h1, h2, h3, h4, rfl⟩ := h
  have hz : (zeroValue 95).run Tryz.prog w = .ok (.agg #[.slice none 0 0, .slice none 0 0]) w := by kernel_rfl
  have hzl : (Builtin.zeroCells (Value.agg #[.slice none 0 0, .slice none 0 0]).cells (n - i)).toList.length = (n - i) * 2 := by
    rw [Array.length_toList, size_zeroCells]
    rfl
  have hone : ∀ v ∈ (Builtin.zeroCells (Value.agg #[.slice none 0 0, .slice none 0 0]).cells (n - i)).toList, v.oneCell' = true := by
    intro v hv
    have hv' : v ∈ ((Array.range ((n - i) * 2)).map fun k => #[Value.slice none 0 0, Value.slice none 0 0][k % 2]!).toList := hv
    rw [Array.toList_map] at hv'
    obtain ⟨k, _, rfl⟩ := List.mem_map.1 hv'
    have : k % 2 = 0 ∨ k % 2 = 1 := by omega
    rcases this with e | e <;> rw [e] <;> rfl
  have hst := run_storeCells_at Tryz.prog g (i * 2) 95 _ 0 cur w h1 (by rw [hzl]; omega) hone
  have hrun : (Builtin.clear_ #[31] ty #[.slice (some ⟨g, i * 2, none⟩) (n - i) k]).run Tryz.prog w = .ok (.tuple #[]) (w.setRow g (cur.toList.take (i * 2 + 0) ++ (Builtin.zeroCells (Value.agg #[.slice none 0 0, .slice none 0 0]).cells (n - i)).toList ++ cur.toList.drop (i * 2 + 0 + (Builtin.zeroCells (Value.agg #[.slice none 0 0, .slice none 0 0]).cells (n - i)).toList.length)).toArray) := by
    obtain ⟨k', hk'⟩ : ∃ k', n - i = k' + 1 := ⟨n - i - 1, by omega⟩
    rw [hk'] at hst ⊢
    simp only [Builtin.clear_]
    simp only [List.getElem?_toArray, List.getElem?_cons_zero]
    simp only [Sem.run_bind, run_underlying Tryz.underlying31, hz, Result.andThen]
    rw [hst]
    rfl
  generalize (Builtin.zeroCells (Value.agg #[.slice none 0 0, .slice none 0 0]).cells (n - i)).toList = C at hrun hzl
  refine ⟨_, hrun, ⟨_, ⟨_, setRow_heap w g cur _ 95 _ h1, h2, h3, ?_, rfl⟩, fun j hj => ?_⟩, ⟨rfl, rfl, rfl, by simp [World.setRow], fun k hk hne => setRow_other w g k _ (fun e => hne e)⟩⟩
  · rw [List.size_toArray, List.length_append, List.length_append, hzl, List.length_take, List.length_drop, Array.length_toList]
    omega
  · rw [List.append_assoc, List.getElem?_take, if_pos (by omega), List.getElem?_append_left (by rw [List.length_take, Array.length_toList]; omega), List.getElem?_take, if_pos (by omega), List.getElem?_take, if_pos (by omega)]
end


/-- The closure says P of each pair, while no block but g is written. -/
def ChdE (w : World) (g bx : Nat) (Y : Nat → Prop) (P : KV → Bool) : Prop := ∀ (W : World) (u1 u2 : Value) (x : KV), Touch (fun k => k = g) w W → SVe W Y u1 x.1 → SVe W Y u2 x.2 → Calls Tryz.prog 69 #[.agg #[u1, u2], .pointer (some ⟨bx, 0, none⟩)] W fun e w' => e = .returned (.bool (P x)) ∧ Below W.heap.size W w'

section
variable {w w' : World} {Y : Nat → Prop} {g n cap base bx : Nat} {l : List KV} {P : KV → Bool}
theorem SVe.slice {u : Value} {x : List Int} (h : SVe w Y u x) : ∃ A n c, u = .slice A n c := by
  obtain ⟨A, n, c, rfl, _⟩ := h
  exact ⟨A, n, c, rfl⟩
set_option maxHeartbeats 1600000 in
theorem idxE_any {vs : List Value} (hrow : RowE w g n cap vs) (hl : l.length = n) (hY : Y g) (hvs : ∀ a x, l[a]? = some x → PairIe w Y vs a x) (hP : ChdE w g bx Y P) (hn : n ≤ 4294967296) :
    Calls Tryz.prog 128 #[.slice (some ⟨g, 0, none⟩) n cap, .func (.func 69) #[] #[.pointer (some ⟨bx, 0, none⟩)]] w fun e w' =>
      ((∃ i x, l[i]? = some x ∧ P x = true ∧ (∀ (a : Nat) (y : KV), a < i → l[a]? = some y → P y = false) ∧ e = .returned (.int .i64 (i : Nat))) ∨ ((∀ (a : Nat) (y : KV), l[a]? = some y → P y = false) ∧ e = .returned (.int .i64 (-1)))) ∧ Below w.heap.size w w' := by
  have HR := Lib.hid hrow
  have HV := Lib.hid hvs
  have HP := Lib.hid hP
  have HL := Lib.hid hl
  clear hrow hvs hP hl
  go_enter Tryz.func128, Tryz.ntmps128
  go_wp2_with fail
  go_loopw [8] (fun i wr => ∃ j : Nat, j ≤ n ∧ i = .int .i64 j ∧ Hid ((∀ (a : Nat) (y : KV), a < j → l[a]? = some y → P y = false) ∧ Below w.heap.size w wr)) (fun i _ => n - (intOf i).toNat)
  case atStart => exact ⟨0, Nat.zero_le _, rfl, Lib.hid ⟨fun a y h => absurd h (Nat.not_lt_zero _), Below.refl _ _⟩⟩
  case round =>
    obtain ⟨j, hj, rfl, HM⟩ := hrel
    by_cases hlt : j < n
    · obtain ⟨hno, hb⟩ := HM.out
      obtain ⟨x, hx⟩ : ∃ x, l[j]? = some x := ⟨_, List.getElem?_eq_getElem (by rw [HL.out]; exact hlt)⟩
      have ht : Touch (fun k => k = g) w wr := Touch.of_below hb
      have hr1 := HR.out.keep (w' := wr) (hb.block g HR.out.lt)
      obtain ⟨u1, u2, e1, e2, s1, s2⟩ := (HV.out j x hx).keep ht hY
      have c1 := hr1.cell e1
      have c2 := hr1.cell e2
      have HC := Lib.hid (HP.out wr u1 u2 x ht s1 s2)
      obtain ⟨A1, n1, k1, rfl⟩ := s1.slice
      obtain ⟨A2, n2, k2, rfl⟩ := s2.slice
      have hj64 : (j : Int) < (n : Int) := by omega
      cases hpx : P x with
      | true =>
        have HFIN := Lib.hid (And.intro hx (And.intro hpx (And.intro hno hb)))
        rw [hpx] at HC
        clear hno hb hx ht hr1 e1 e2 s1 s2 hpx
        go_wp2_with fail
        refine HC.out.mono ?_
        rintro e w2 ⟨rfl, hb2⟩
        have HB2 := Lib.hid hb2
        clear hb2
        go_wp2
        go_ret
        obtain ⟨f1, f2, f3, f4⟩ := HFIN.out
        exact ⟨.inl ⟨j, x, f1, f2, f3, rfl⟩, f4.trans (HB2.out.mono f4.size)⟩
      | false =>
        rw [hpx] at HC
        have HN := Lib.hid (show ∀ (a : Nat) (y : KV), a < j + 1 → l[a]? = some y → P y = false from fun a y ha hy => by
          by_cases e : a = j
          · rw [e, hx] at hy; cases hy; exact hpx
          · exact hno a y (by omega) hy)
        have HB := Lib.hid hb
        clear hno hb hx ht hr1 e1 e2 s1 s2 hpx
        go_wp2_with fail
        refine HC.out.mono ?_
        rintro e w2 ⟨rfl, hb2⟩
        have HB2 := Lib.hid (And.intro HN.out (HB.out.trans (hb2.mono HB.out.size)))
        clear hb2
        go_wp2
        go_roundw
        case rel => exact ⟨j + 1, by omega, by go_num, HB2⟩
        case measure => simp [intOf]; omega
    · obtain rfl : j = n := by omega
      go_wp2
      go_ret
      obtain ⟨hno, hb⟩ := HM.out
      exact ⟨.inr ⟨fun a y hy => hno a y (by rw [← HL.out]; exact (List.getElem?_eq_some_iff.1 hy).1) hy, rfl⟩, hb⟩

/-- The pairs of the first j that stay. -/
def stayE (P : KV → Bool) (l : List KV) (j : Nat) : List KV := (l.take j).filter fun x => !P x
theorem stayE_succ {P : KV → Bool} {l : List KV} {j : Nat} {x : KV} (hx : l[j]? = some x) : stayE P l (j + 1) = if P x then stayE P l j else stayE P l j ++ [x] := by
  obtain ⟨hi, rfl⟩ := List.getElem?_eq_some_iff.1 hx
  unfold stayE
  rw [List.take_succ_eq_append_getElem hi, List.filter_append]
  cases h : P l[j] <;> simp [h]
theorem stayE_len (P : KV → Bool) (l : List KV) (j : Nat) : (stayE P l j).length ≤ j := Nat.le_trans (List.length_filter_le _ _) (by rw [List.length_take]; exact Nat.min_le_left _ _)

/-- Where DeleteFunc stands: the first j pairs were looked at. -/
def DelE (w wr : World) (g n cap : Nat) (Y : Nat → Prop) (P : KV → Bool) (l : List KV) (j : Nat) : Prop :=
  ∃ vs, RowE wr g n cap vs ∧ (∀ a x, (stayE P l j)[a]? = some x → PairIe wr Y vs a x) ∧ (∀ a x, j ≤ a → l[a]? = some x → PairIe wr Y vs a x) ∧ Touch (fun k => k = g) w wr
theorem DelE.touch {wr wr' : World} {j : Nat} (h : DelE w wr g n cap Y P l j) (hb : Below wr.heap.size wr wr') (hY : Y g) : DelE w wr' g n cap Y P l j := by
  obtain ⟨vs, h1, h2, h3, h4⟩ := h
  have ht : Touch (fun k => k = g) wr wr' := Touch.of_below hb
  exact ⟨vs, h1.keep (hb.block g h1.lt), fun a x hx => (h2 a x hx).keep ht hY, fun a x ha hx => (h3 a x ha hx).keep ht hY, h4.trans ht⟩
theorem DelE.drop {wr : World} {j : Nat} {x : KV} (h : DelE w wr g n cap Y P l j) (hx : l[j]? = some x) (hp : P x = true) : DelE w wr g n cap Y P l (j + 1) := by
  obtain ⟨vs, h1, h2, h3, h4⟩ := h
  refine ⟨vs, h1, fun a y hy => h2 a y ?_, fun a y ha hy => h3 a y (by omega) hy, h4⟩
  rw [stayE_succ hx, if_pos hp] at hy
  exact hy
theorem DelE.move {wr : World} {j i : Nat} {x : KV} {u1 u2 : Value} (h : DelE w wr g n cap Y P l j) (hx : l[j]? = some x) (hp : P x = false) (hi : (stayE P l j).length = i) (hij : i < j) (hjn : j < n) (hY : Y g) (s1 : SVe wr Y u1 x.1) (s2 : SVe wr Y u2 x.2) :
    DelE w ((wr.setCell ⟨g, i * 2, none⟩ u1).setCell ⟨g, i * 2 + 1, none⟩ u2) g n cap Y P l (j + 1) := by
  obtain ⟨vs, h1, h2, h3, h4⟩ := h
  have hlen := h1.len
  have ht : Touch (fun k => k = g) wr ((wr.setCell ⟨g, i * 2, none⟩ u1).setCell ⟨g, i * 2 + 1, none⟩ u2) :=
    ⟨rfl, rfl, rfl, by simp [World.setCell], fun k _ hne => by rw [Below.heap_setCell _ _ _ _ (by simpa using hne), Below.heap_setCell _ _ _ _ (by simpa using hne)]⟩
  have hk : ∀ k, k < wr.heap.size → ¬ Y k → ((wr.setCell ⟨g, i * 2, none⟩ u1).setCell ⟨g, i * 2 + 1, none⟩ u2).heap[k]? = wr.heap[k]? := fun k hk hy => ht.block k hk fun e => hy (by rw [e]; exact hY)
  have old : ∀ a y, a ≠ i → PairIe wr Y vs a y → PairIe ((wr.setCell ⟨g, i * 2, none⟩ u1).setCell ⟨g, i * 2 + 1, none⟩ u2) Y ((vs.set (i * 2) u1).set (i * 2 + 1) u2) a y := fun a y ha hy => (hy.keep ht hY).of
    (by rw [List.getElem?_set_ne (by omega), List.getElem?_set_ne (by omega)]) (by rw [List.getElem?_set_ne (by omega), List.getElem?_set_ne (by omega)])
  refine ⟨_, h1.set2 (by omega) u1 u2, fun a y hy => ?_, fun a y ha hy => old a y (by omega) (h3 a y (by omega) hy), h4.trans ht⟩
  rw [stayE_succ hx, if_neg (by rw [hp]; decide)] at hy
  rcases Nat.lt_or_ge a i with h' | h'
  · rw [List.getElem?_append_left (by omega)] at hy
    exact old a y (by omega) (h2 a y hy)
  · rw [List.getElem?_append_right (by omega)] at hy
    have ha0 : a - (stayE P l j).length = 0 := by
      have := (List.getElem?_eq_some_iff.1 hy).1
      simp at this
      omega
    rw [ha0] at hy
    obtain rfl : x = y := by simpa using hy
    obtain rfl : a = i := by omega
    refine ⟨u1, u2, ?_, ?_, s1.keep ht.size (fun _ _ h => h) hk, s2.keep ht.size (fun _ _ h => h) hk⟩
    · rw [List.getElem?_set_ne (by omega), List.getElem?_set_self (by omega)]
    · rw [List.getElem?_set_self (by rw [List.length_set]; omega)]

set_option maxHeartbeats 6400000 in
theorem delE_any (h : GRow PairS 95 2 w Y base (.slice (some ⟨g, 0, none⟩) n cap) l) (hYlt : ∀ k, Y k → k < w.heap.size) (hP : ChdE w g bx Y P) (hn : n ≤ 4294967296) :
    Calls Tryz.prog 71 #[.slice (some ⟨g, 0, none⟩) n cap, .func (.func 69) #[] #[.pointer (some ⟨bx, 0, none⟩)]] w fun e w' =>
      e = .returned (.slice (some ⟨g, 0, none⟩) (l.filter fun x => !P x).length cap) ∧ GRow PairS 95 2 w' Y base (.slice (some ⟨g, 0, none⟩) (l.filter fun x => !P x).length cap) (l.filter fun x => !P x) ∧ Touch (fun k => k = g) w w' := by
  obtain ⟨hl, hbg, hY, vs, hrow, hvs⟩ := h.openE
  have hcap : n ≤ cap := by obtain ⟨_, _, hc, _⟩ := hrow; exact hc
  have hcapm : cap ≤ 2 ^ 63 - 1 := by obtain ⟨_, _, _, hc, _⟩ := hrow; exact hc
  have HI := Lib.hid (idxE_any hrow hl.symm hY hvs hP hn)
  have H0 := Lib.hid (And.intro hrow hvs)
  have HP := Lib.hid hP
  have HL := Lib.hid hl
  have HB := Lib.hid hbg
  have HG := Lib.hid h
  clear hrow hvs hP hl hbg h
  go_enter Tryz.func71, Tryz.ntmps71
  go_wp2_with fail
  refine HI.out.mono ?_
  rintro e w1 ⟨hcase, hb1⟩
  rcases hcase with ⟨i0, x0, hx0, hp0, hno, rfl⟩ | ⟨hno, rfl⟩
  · have hi0 : i0 < n := by have := (List.getElem?_eq_some_iff.1 hx0).1; rw [← HL.out] at this; exact this
    have hst0 : stayE P l (i0 + 1) = l.take i0 := by
      rw [stayE_succ hx0, if_pos hp0]
      unfold stayE
      rw [List.filter_eq_self]
      intro a ha
      obtain ⟨k, hk, rfl⟩ := List.getElem_of_mem ha
      rw [List.length_take] at hk
      rw [List.getElem_take, hno k _ (by omega) (List.getElem?_eq_getElem (by omega))]
      rfl
    have hD0 : DelE w w1 g n cap Y P l (i0 + 1) := by
      obtain ⟨hrow, hvs⟩ := H0.out
      have ht : Touch (fun k => k = g) w w1 := Touch.of_below hb1
      refine ⟨vs, hrow.keep (hb1.block g hrow.lt), fun a x hx => ?_, fun a x _ hx => (hvs a x hx).keep ht hY, ht⟩
      rw [hst0] at hx
      rw [List.getElem?_take] at hx
      split at hx
      · exact (hvs a x hx).keep ht hY
      · cases hx
    have hlen0 : (stayE P l (i0 + 1)).length = i0 := by rw [hst0, List.length_take, ← HL.out]; omega
    have HD0 := Lib.hid (And.intro hD0 hlen0)
    have hi64 : ((i0 : Int) == -1) = false := by simp
    clear hx0 hp0 hno hb1 hst0 hD0 hlen0
    go_wp2_with fail
    go_loopw [5, 6] (fun iv jv wr => ∃ i j : Nat, i < j ∧ j ≤ n ∧ iv = .int .i64 i ∧ jv = .int .i64 j ∧ Hid (DelE w wr g n cap Y P l j ∧ (stayE P l j).length = i)) (fun _ jv _ => n - (intOf jv).toNat)
    case atStart => exact ⟨i0, i0 + 1, by omega, by omega, rfl, by go_num, HD0⟩
    case round =>
      obtain ⟨i, j, hij, hjn, rfl, rfl, HD⟩ := hrel
      obtain ⟨hD, hsl⟩ := HD.out
      by_cases hlt : j < n
      · obtain ⟨x, hx⟩ : ∃ x, l[j]? = some x := ⟨_, List.getElem?_eq_getElem (by rw [← HL.out]; exact hlt)⟩
        have hcl : ∃ u1 u2, wr.cell? ⟨g, j * 2, none⟩ = some u1 ∧ wr.cell? ⟨g, j * 2 + 1, none⟩ = some u2 ∧ SVe wr Y u1 x.1 ∧ SVe wr Y u2 x.2 ∧ g < wr.heap.size ∧ Touch (fun k => k = g) w wr := by
          obtain ⟨vs', h1, h2, h3, h4⟩ := hD
          obtain ⟨u1, u2, e1, e2, s1, s2⟩ := h3 j x (Nat.le_refl _) hx
          exact ⟨u1, u2, h1.cell e1, h1.cell e2, s1, s2, h1.lt, h4⟩
        obtain ⟨u1, u2, c1, c2, s1, s2, hgl, ht⟩ := hcl
        obtain ⟨w2, hw2⟩ : ∃ w2, w2 = wr.alloc (.cells #[u1, u2] 95 (0, 0)) := ⟨_, rfl⟩
        have hb2 : Below wr.heap.size wr w2 := by rw [hw2]; exact (Below.refl _ _).alloc (Nat.le_refl _) _
        have hs2 : wr.heap.size < w2.heap.size := by rw [hw2]; simp
        have hbk : w2.heap[wr.heap.size]? = some (.cells #[u1, u2] 95 (0, 0)) := by rw [hw2]; exact heap_alloc_new _ _
        have t2 : Touch (fun k => k = g) w w2 := ht.trans (Touch.of_below hb2)
        have HC := Lib.hid (HP.out w2 u1 u2 x t2 (s1.keep hb2.size (fun _ _ h => h) (fun k hk _ => hb2.block k hk)) (s2.keep hb2.size (fun _ _ h => h) (fun k hk _ => hb2.block k hk)))
        have hj64 : (j : Int) < (n : Int) := by omega
        have HX := Lib.hid (And.intro hx (And.intro hD (And.intro hsl (And.intro s1 s2))))
        have HB2 := Lib.hid (And.intro hb2 (And.intro hs2 (And.intro hbk hgl)))
        obtain ⟨A1, n1, k1, rfl⟩ := s1.slice
        obtain ⟨A2, n2, k2, rfl⟩ := s2.slice
        clear hx hD hsl hb2 hs2 hbk t2 ht hgl
        cases hpx : P x with
        | true =>
          have HPX := Lib.hid hpx
          rw [hpx] at HC
          clear s1 s2 hpx
          go_wp2_with fail
          rw [← hw2]
          clear hw2
          refine HC.out.mono ?_
          rintro e w3 ⟨rfl, hb3⟩
          obtain ⟨x1, x2, x3, _⟩ := HX.out
          obtain ⟨y1, y2, y3, y4⟩ := HB2.out
          have HN := Lib.hid (show DelE w w3 g n cap Y P l (j + 1) ∧ (stayE P l (j + 1)).length = i from ⟨(x2.touch (y1.trans (hb3.mono y1.size)) hY).drop x1 HPX.out, by rw [stayE_succ x1, if_pos HPX.out]; exact x3⟩)
          clear x1 x2 x3 y1 y2 y3 y4 hb3
          go_wp2
          go_roundw
          case rel => exact ⟨i, j + 1, by omega, by omega, rfl, by go_num, HN⟩
          case measure => simp [intOf]; omega
        | false =>
          have HPX := Lib.hid hpx
          rw [hpx] at HC
          clear s1 s2 hpx
          go_wp2_with fail
          rw [← hw2]
          clear hw2
          refine HC.out.mono ?_
          rintro e w3 ⟨rfl, hb3⟩
          obtain ⟨x1, x2, x3, x4, x5⟩ := HX.out
          obtain ⟨y1, y2, y3, y4⟩ := HB2.out
          have y5 := y1.trans (hb3.mono y1.size)
          have hbk3 := (hb3.block wr.heap.size y2).trans y3
          have d0 : w3.cell? ⟨wr.heap.size, 0, none⟩ = some (.slice A1 n1 k1) := by rw [cell_of_row w3 _ 0 _ _ (0, 0) hbk3]; rfl
          have d1 : w3.cell? ⟨wr.heap.size, 1, none⟩ = some (.slice A2 n2 k2) := by rw [cell_of_row w3 _ 1 _ _ (0, 0) hbk3]; rfl
          have hD3 := x2.touch y5 hY
          have hio : ∃ v0 v1, w3.cell? ⟨g, i * 2, none⟩ = some v0 ∧ w3.cell? ⟨g, i * 2 + 1, none⟩ = some v1 ∧ w3.frozen? ⟨g, i * 2, none⟩ = false ∧ w3.frozen? ⟨g, i * 2 + 1, none⟩ = false := by
            obtain ⟨vs3, z1, _, _, _⟩ := hD3
            have hl3 := z1.len
            exact ⟨_, _, z1.cell (List.getElem?_eq_getElem (by omega)), z1.cell (List.getElem?_eq_getElem (by omega)), z1.frozen _, z1.frozen _⟩
          obtain ⟨v0, v1, i1, i2, i3, i4⟩ := hio
          have hi64 : (i : Int) < (n : Int) := by omega
          have HN := Lib.hid (show DelE w ((w3.setCell ⟨g, i * 2, none⟩ (.slice A1 n1 k1)).setCell ⟨g, i * 2 + 1, none⟩ (.slice A2 n2 k2)) g n cap Y P l (j + 1) ∧ (stayE P l (j + 1)).length = i + 1 from
            ⟨hD3.move x1 HPX.out x3 hij hlt hY (x4.keep y5.size (fun _ _ h => h) (fun k hk _ => y5.block k hk)) (x5.keep y5.size (fun _ _ h => h) (fun k hk _ => y5.block k hk)), by rw [stayE_succ x1, if_neg (by rw [HPX.out]; decide), List.length_append, x3]; rfl⟩)
          clear x1 x2 x3 x4 x5 y1 y2 y3 y4 y5 hb3 hbk3 hD3 c1 c2
          go_wp2
          go_roundw
          case rel => exact ⟨i + 1, j + 1, by omega, by omega, by go_num, by go_num, HN⟩
          case measure => simp [intOf]; omega
      · obtain rfl : j = n := by omega
        have hfil : stayE P l j = l.filter fun x => !P x := by unfold stayE; rw [List.take_of_length_le (by rw [HL.out]; exact Nat.le_refl _)]
        rw [hfil] at hsl
        obtain ⟨vs', r1, r2, r3, r4⟩ := hD
        rw [hfil] at r2
        obtain ⟨w4, hrun, ⟨vs4, q1, q2⟩, q3⟩ := r1.clear_ (k := cap - i) hij 0
        have HFIN := Lib.hid (show GRow PairS 95 2 w4 Y base (.slice (some ⟨g, 0, none⟩) (l.filter fun x => !P x).length cap) (l.filter fun x => !P x) ∧ Touch (fun k => k = g) w w4 from
          ⟨GRow.shutE q1 (by omega) HB.out hY (fun a x hx => ((r2 a x hx).keep q3 hY).of (q2 _ (by have := (List.getElem?_eq_some_iff.1 hx).1; omega)) (q2 _ (by have := (List.getElem?_eq_some_iff.1 hx).1; omega))), r4.trans q3⟩)
        have HSL := Lib.hid hsl
        have hij64 : (i : Int) < (j : Int) := by omega
        have hi0 : (0 : Int) ≤ (i : Int) := by omega
        clear hfil r1 r2 r3 r4 q1 q2 q3 hsl
        go_wp2
        go_ret
        exact ⟨congrArg (fun z => Ending.returned (Value.slice (some ⟨g, 0, none⟩) z cap)) HSL.out.symm, HFIN.out⟩
  · have hfil : (l.filter fun x => !P x) = l := by
      rw [List.filter_eq_self]
      intro a ha
      obtain ⟨k, hk, rfl⟩ := List.getElem_of_mem ha
      rw [hno k _ (List.getElem?_eq_getElem hk)]
      rfl
    have HFIN := Lib.hid (show GRow PairS 95 2 w1 Y base (.slice (some ⟨g, 0, none⟩) (l.filter fun x => !P x).length cap) (l.filter fun x => !P x) ∧ Touch (fun k => k = g) w w1 from by
      rw [hfil, ← HL.out]
      exact ⟨HG.out.below @pairS_kept hb1, Touch.of_below hb1⟩)
    have HSL := Lib.hid (show (l.filter fun x => !P x).length = n by rw [hfil]; exact HL.out.symm)
    clear hno hb1 hfil
    go_wp2
    go_ret
    exact ⟨congrArg (fun z => Ending.returned (Value.slice (some ⟨g, 0, none⟩) z cap)) HSL.out.symm, HFIN.out⟩
end

end Go.Proofs.YtinhdimalhfgkaaGreatDoor

/-
  bytes.HasPrefix, and the closure of a disk's store: which pairs Scan leaves out. Condition: a slice is no longer than its place.
-/
namespace Go.Proofs.YtinhdimalhfgkaaGreatDoor
open Go.RowKit
set_option maxRecDepth 100000
set_option linter.unusedVariables false

/-- Whether bytes begin with others. -/
def preB (p l : List Int) : Bool := decide (p.length ≤ l.length) && decide (l.take p.length = p)
theorem RB.head_ {w : World} {B n m : Nat} {A : Option Addr} {l : List Int} (h : RB w B A n l) (hm : m ≤ n) : RB w B A m (l.take m) := by
  refine ⟨by rw [List.length_take, h.1]; omega, fun x hx => h.2.1 x (List.mem_of_mem_take hx), fun h0 => ?_⟩
  obtain ⟨b, off, e, hb, hc⟩ := h.2.2 (by omega)
  refine ⟨b, off, e, hb, fun j hj => ?_⟩
  rw [List.getElem?_take, if_pos hj]
  exact hc j (by omega)
set_option maxHeartbeats 800000 in
theorem hasPreB_any {w : World} {B B' n m : Nat} {A A' : Option Addr} {l l' : List Int} (c d : Nat) (h : RB w B A n l) (h' : RB w B' A' m l') (hc : n ≤ c) (hn : n ≤ maxLen ∧ m ≤ maxLen) :
    Calls Tryz.prog 70 #[.slice A n c, .slice A' m d] w fun e w' => e = .returned (.bool (preB l' l)) ∧ w = w' := by
  have hl : l.length = n := h.1
  have hl' : l'.length = m := h'.1
  by_cases hm : m ≤ n
  · have hmi : (m : Int) ≤ (n : Int) := by omega
    have hE := Equal_any (w := w) c d (h.head_ hm) h'
    have e : preB l' l = decide (l.take m = l') := by
      unfold preB
      rw [hl, hl', decide_eq_true hm, Bool.true_and]
    rw [← e] at hE
    have HE := Lib.hid hE
    generalize preB l' l = bb at *
    have hmc : m ≤ c := by omega
    clear hE e h h' hl hl'
    go_enter Tryz.func70, Tryz.ntmps70
    go_wp2_with fail
    refine HE.out.mono ?_
    rintro e w1 ⟨rfl, rfl⟩
    go_wp2
    go_ret
    exact ⟨rfl, rfl⟩
  · have hmi : ¬ (m : Int) ≤ (n : Int) := by omega
    have e : preB l' l = false := by
      unfold preB
      rw [hl, hl', decide_eq_false hm, Bool.false_and]
    rw [e]
    clear e h h' hl hl' hm
    go_enter Tryz.func70, Tryz.ntmps70
    go_wp2
    go_ret
    exact ⟨rfl, rfl⟩
set_option maxHeartbeats 1600000 in
/-- Scan's closure. -/
theorem kvChd_any {w : World} {g bx pn pc : Nat} {Y : Nat → Prop} {PA : Option Addr} {pre : List Int} (hbx : w.cell? ⟨bx, 0, none⟩ = some (.slice PA pn pc)) (hbl : bx < w.heap.size) (hbg : bx ≠ g) (hp : RB w w.heap.size PA pn pre) (hpn : pn ≤ maxLen) (hpg : ∀ a, PA = some a → 0 < pn → a.block ≠ g) :
    ChdE w g bx Y (fun x => !preB pre x.1) := by
  intro W u1 u2 x ht s1 s2
  obtain ⟨A1, n1, k1, rfl, b1, b2, r1, _⟩ := s1
  obtain ⟨A2, n2, k2, rfl, _⟩ := s2
  have cb := (World.cell?_of_block (a := ⟨bx, 0, none⟩) (ht.block bx hbl hbg)).trans hbx
  have hpW : RB W W.heap.size PA pn pre := ⟨hp.1, hp.2.1, fun h0 => by
    obtain ⟨b, off, e, hb, hc⟩ := hp.2.2 h0
    exact ⟨b, off, e, Nat.lt_of_lt_of_le hb ht.size, fun j hj => (World.cell?_of_block (a := ⟨b, off + j, none⟩) (ht.block b hb (hpg _ e h0))).trans (hc j hj)⟩⟩
  obtain ⟨X, hX⟩ : ∃ X, X = W.alloc (.cells #[.slice A1 n1 k1, .slice A2 n2 k2] 95) := ⟨_, rfl⟩
  have hb : Below W.heap.size W X := by rw [hX]; exact (Below.refl _ _).alloc (Nat.le_refl _) _
  have hbW : bx < W.heap.size := Nat.lt_of_lt_of_le hbl ht.size
  have cb2 := (hb.cell (p := ⟨bx, 0, none⟩) hbW).trans cb
  have HP := Lib.hid (hasPreB_any (w := X) k1 pc (r1.below hb) (hpW.below hb) b1 ⟨b2, hpn⟩)
  have HB := Lib.hid hb
  rw [hX] at cb2
  clear cb hb hp hpW r1 hbx ht hbW hpg
  show Calls _ _ _ W fun e w' => e = .returned (.bool (!preB pre x.1)) ∧ Below W.heap.size W w'
  generalize preB pre x.1 = bb at *
  go_enter Tryz.func69, Tryz.ntmps69
  go_wp2_with fail
  rw [← hX]
  refine HP.out.mono ?_
  rintro e w1 ⟨rfl, rfl⟩
  clear cb2 hX HP
  go_wp2
  go_ret
  exact ⟨rfl, HB.out⟩
/-- The cells of pairs, in both readings. -/
theorem pairS_of {w : World} {Y : Nat → Prop} {us : List Value} {x : KV} (h : PairE w Y us x) : PairS w Y us x := by
  obtain ⟨ka, kn, kc, va, vn, vc, e, r1, b1, r2, b2⟩ := h
  exact ⟨_, _, e, ⟨ka, kn, kc, rfl, b1.1, b1.2, r1.1, r1.2⟩, ⟨va, vn, vc, rfl, b2.1, b2.2, r2.1, r2.2⟩⟩
theorem GRow.ofE {w : World} {Y : Nat → Prop} {base : Nat} {v : Value} {l : List KV} (h : GRow PairE 95 2 w Y base v l) : GRow PairS 95 2 w Y base v l := by
  obtain ⟨⟨vs, h1, h2⟩, h3⟩ := h
  exact ⟨⟨vs, h1, fun i x hx => pairS_of (h2 i x hx)⟩, h3⟩
end Go.Proofs.YtinhdimalhfgkaaGreatDoor
