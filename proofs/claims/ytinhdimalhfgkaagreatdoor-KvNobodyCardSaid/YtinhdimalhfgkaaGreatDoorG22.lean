/-
  The texts ExtE, Gen, ExtF, ExtH, ExtI joined. Conditions: those that each part says at its head.
-/
import Derived.Test.YtinhdimalhfgkaaGreatDoorG21
import Derived.Test.YtinhdimalhfgkaaGreatDoorG1
import Derived.Test.YtinhdimalhfgkaaGreatDoorG19
import Derived.Maps.AppendAt
import Derived.Deep.AppendLies
import Derived.Deep.AppendSrc
import Derived.Laws.Append
import Derived.Deep.RegionHeld3
import Derived.Deep.RegionLaw

/-
  Contract of bucket.Parse once more: what it answers lies in new memory alone. Condition: lengths are ints.
-/
namespace Go.Proofs.YtinhdimalhfgkaaGreatDoor
open Go.RowKit
set_option maxRecDepth 100000
set_option linter.unusedVariables false

/-- A bucket over the result's box. -/
theorem bkStore_own {w0 W : World} {n c : Nat} {d x : Int} {A : Option Addr} {ps : List KV} (hr : Stays W (fun k => k ≤ w0.heap.size) A n ps) (hc : n ≤ c) (h0 : BkBox W w0.heap.size 0 0 none 0 0) (hb : Below w0.heap.size w0 W) :
    BkBox (((W.setCell ⟨w0.heap.size, 0, none⟩ (.int .i64 d)).setCell ⟨w0.heap.size, 1, none⟩ (.int .i64 x)).setCell ⟨w0.heap.size, 2, none⟩ (.slice A n c)) w0.heap.size d x A n c ∧ n ≤ c ∧ Stays (((W.setCell ⟨w0.heap.size, 0, none⟩ (.int .i64 d)).setCell ⟨w0.heap.size, 1, none⟩ (.int .i64 x)).setCell ⟨w0.heap.size, 2, none⟩ (.slice A n c)) (fun k => k ≤ w0.heap.size) A n ps ∧ Below w0.heap.size w0 (((W.setCell ⟨w0.heap.size, 0, none⟩ (.int .i64 d)).setCell ⟨w0.heap.size, 1, none⟩ (.int .i64 x)).setCell ⟨w0.heap.size, 2, none⟩ (.slice A n c)) := by
  have hq := ((hr.setCell (p := ⟨w0.heap.size, 0, none⟩) (Nat.le_refl _) (.int .i64 d)).setCell (p := ⟨w0.heap.size, 1, none⟩) (Nat.le_refl _) (.int .i64 x)).setCell (p := ⟨w0.heap.size, 2, none⟩) (Nat.le_refl _) (.slice A n c)
  exact ⟨h0.store, hc, hq, ((hb.setCell (p := ⟨w0.heap.size, 0, none⟩) (Nat.le_refl _) _).setCell (p := ⟨w0.heap.size, 1, none⟩) (Nat.le_refl _) _).setCell (p := ⟨w0.heap.size, 2, none⟩) (Nat.le_refl _) _⟩
set_option maxHeartbeats 6400000 in
theorem bkParse_own {w : World} {B n c : Nat} {A : Option Addr} {l : List Int} (hr : RB w B A n l) (hB : B ≤ w.heap.size) (hc : n ≤ c) (hm : n ≤ maxLen) :
    Calls Tryz.prog 157 #[.slice A n c] w fun e w' => ∃ A' n' c', e = .returned (.tuple #[.agg #[.int .i64 (parseBk l).1.d, .int .i64 (parseBk l).1.x, .slice A' n' c'], .int .i64 (parseBk l).2]) ∧ n' ≤ c' ∧ Stays w' (fun k => k ≤ w.heap.size) A' n' (parseBk l).1.ps ∧ Below w.heap.size w w' := by
  unfold maxLen at hm
  have hX : Below w.heap.size w (w.alloc (BkObj 0 0 none 0 0)) := (Below.refl _ _).alloc (Nat.le_refl _) _
  have hbx := BkBox.new w 0 0 none 0 0
  by_cases h240 : n = 240
  · have HC := Lib.hid (bkClone_any c (hr.below (hX.mono hB)) (Nat.le_trans hB hX.size) (by omega))
    have HBX := Lib.hid hbx
    have HX := Lib.hid hX
    have HR := Lib.hid hr
    have HLEN := Lib.hid (show l.length = 240 by rw [hr.len]; exact h240)
    have hfew := readBk_few l
    have hint := readBk_int hr.bytes
    have hs1 : w.heap.size < (w.alloc (BkObj 0 0 none 0 0)).heap.size := by simp
    clear hX hbx hr
    subst h240
    unfold BkObj at *
    go_enter Tryz.func157, Tryz.ntmps157
    go_wp2_with fail
    refine HC.out.mono ?_
    rintro e w1 ⟨A1, c1, rfl, hc1, hr1, hb1, hnew⟩
    have HB1 := Lib.hid (And.intro (HX.out.trans (hb1.mono HX.out.size)) (HBX.out.below hb1))
    have HRD := Lib.hid (bkRead_any hr1 (Nat.le_refl _) rfl hc1 (fun k => k ≤ w.heap.size) (fun k hk => Nat.lt_of_le_of_lt hk HB1.out.2.cells.2.2.2) (fun x hx e => by have := hnew x hx; have e' : x.block ≤ w.heap.size := e; omega))
    clear hr1 hb1 hnew HC HX HBX
    go_wp2_with fail
    refine HRD.out.mono ?_
    rintro e w2 ⟨A2, n2, c2, rfl, hc2, hst2, hb2⟩
    have hXX : Below w2.heap.size w2 (w2.alloc (BkObj (readBk l).d (readBk l).x A2 n2 c2)) := (Below.refl _ _).alloc (Nat.le_refl _) _
    have hb2X := hb2.trans (hXX.mono hb2.size)
    have HB2 := Lib.hid (And.intro (HB1.out.1.trans (hb2X.mono HB1.out.1.size)) (And.intro (HB1.out.2.below hb2X) (And.intro (BkBox.new w2 (readBk l).d (readBk l).x A2 n2 c2) (hst2.below hXX))))
    have hn2 : n2 ≤ 116 := by rw [← hst2.now.len]; exact hfew.2
    have HP := Lib.hid (bkPut_any (readBk l).d (readBk l).x c2 HB2.out.2.2.2.now (Nat.le_refl _) (by unfold maxLen; omega) (by omega) hint.1 hint.2)
    obtain ⟨u0, u1, u2, _⟩ := HB2.out.2.2.1.cells
    have HPY := Lib.hid (fun (hm : mayBk (readBk l) = true) (hp : pageBk (readBk l) = l) => parseBk_yes HLEN.out hm hp)
    have HPN := Lib.hid (fun (h : ¬ (mayBk (readBk l) = true ∧ pageBk (readBk l) = l)) => parseBk_no (l := l) (fun h' => h h'.2))
    have hput : putBk ⟨(readBk l).d, (readBk l).x, (readBk l).ps⟩ = if mayBk (readBk l) = true then (pageBk (readBk l), 0) else ([], 1) := rfl
    rw [hput] at HP
    clear hput hfew hint hst2 hb2 hXX hb2X HRD HB1
    generalize readBk l = R at *
    obtain ⟨D, X0, PS⟩ := R
    unfold BkObj at *
    go_wp2_with fail
    refine HP.out.mono ?_
    by_cases hmay : mayBk ⟨D, X0, PS⟩ = true
    · rw [if_pos hmay]
      rintro e w3 ⟨A3, n3, c3, rfl, hc3, hr3, hb3⟩
      have hr3 : RB w3 w3.heap.size A3 n3 (pageBk ⟨D, X0, PS⟩) := hr3
      obtain ⟨k1, k2, k3, k4⟩ := HB2.out
      have hb03 := k1.trans (hb3.mono k1.size)
      have hbx0 := k2.below hb3
      have hbx4 := k3.below hb3
      have hst3 := k4.below hb3
      have HE := Lib.hid (Equal_any c3 c hr3 (HR.out.below (hb03.mono hB)))
      have f0 := hbx0.frozen 0
      have f1 := hbx0.frozen 1
      have f2 := hbx0.frozen 2
      obtain ⟨z0, z1, z2, _⟩ := hbx0.cells
      clear u0 u1 u2
      obtain ⟨u0, u1, u2, _⟩ := hbx4.cells
      by_cases hpd : pageBk ⟨D, X0, PS⟩ = l
      · have HPS := Lib.hid (HPY.out hmay hpd)
        rw [decide_eq_true hpd] at HE
        have HEND := Lib.hid (bkStore_own (d := D) (x := X0) hst3 hc2 hbx0 hb03)
        clear hr3 hb3 k1 k2 k3 k4 hb03 hbx0 hbx4 hst3 HP hpd hmay HPY HPN HB2
        go_wp2_with fail
        refine HE.out.mono ?_
        rintro e w4 ⟨rfl, rfl⟩
        go_wp2
        generalize hXX : (((w3.setCell ⟨w.heap.size, 0, none⟩ (Value.int IntKind.i64 D)).setCell ⟨w.heap.size, 1, none⟩ (Value.int IntKind.i64 X0)).setCell ⟨w.heap.size, 2, none⟩ (Value.slice A2 n2 c2)) = X at *
        obtain ⟨d0, d1, d2, _⟩ := HEND.out.1.cells
        refine bodyPost_ret (v := .tuple #[.agg #[.int .i64 D, .int .i64 X0, .slice A2 n2 c2], .int .i64 0]) (by
          simp [results, Tryz.results157, go_sem, d0, d1, d2]) rfl ?_
        rw [HPS.out]
        exact ⟨_, _, _, rfl, HEND.out.2.1, HEND.out.2.2.1, HEND.out.2.2.2⟩
      · have HPS := Lib.hid (HPN.out (fun h => hpd h.2))
        rw [decide_eq_false hpd] at HE
        have HEND := Lib.hid (bkStore_own (d := 0) (x := 0) (Stays.none_ w3 (fun k => k ≤ w.heap.size)) (Nat.le_refl 0) hbx0 hb03)
        clear hr3 hb3 k1 k2 k3 k4 hb03 hbx0 hbx4 hst3 HP hpd hmay HPY HPN HB2
        go_wp2_with fail
        refine HE.out.mono ?_
        rintro e w4 ⟨rfl, rfl⟩
        go_wp2
        generalize hXX : (((w3.setCell ⟨w.heap.size, 0, none⟩ (Value.int IntKind.i64 0)).setCell ⟨w.heap.size, 1, none⟩ (Value.int IntKind.i64 0)).setCell ⟨w.heap.size, 2, none⟩ (Value.slice none 0 0)) = X at *
        obtain ⟨d0, d1, d2, _⟩ := HEND.out.1.cells
        refine bodyPost_ret (v := .tuple #[.agg #[.int .i64 0, .int .i64 0, .slice none 0 0], .int .i64 4]) (by
          simp [results, Tryz.results157, go_sem, d0, d1, d2]) rfl ?_
        rw [HPS.out]
        exact ⟨_, _, _, rfl, HEND.out.2.1, HEND.out.2.2.1, HEND.out.2.2.2⟩
    · rw [if_neg hmay]
      rintro e w3 ⟨A3, n3, c3, rfl, hc3, hr3, hb3⟩
      obtain ⟨k1, k2, k3, k4⟩ := HB2.out
      have hb03 := k1.trans (hb3.mono k1.size)
      have hbx0 := k2.below hb3
      have f0 := hbx0.frozen 0
      have f1 := hbx0.frozen 1
      have f2 := hbx0.frozen 2
      obtain ⟨z0, z1, z2, _⟩ := hbx0.cells
      have HPS := Lib.hid (HPN.out (fun h => hmay h.1))
      have HEND := Lib.hid (bkStore_own (d := 0) (x := 0) (Stays.none_ w3 (fun k => k ≤ w.heap.size)) (Nat.le_refl 0) hbx0 hb03)
      clear u0 u1 u2 hr3 hb3 k1 k2 k3 k4 hb03 hbx0 HP hmay HPY HPN HB2
      go_wp2
      generalize hXX : (((w3.setCell ⟨w.heap.size, 0, none⟩ (Value.int IntKind.i64 0)).setCell ⟨w.heap.size, 1, none⟩ (Value.int IntKind.i64 0)).setCell ⟨w.heap.size, 2, none⟩ (Value.slice none 0 0)) = X at *
      obtain ⟨d0, d1, d2, _⟩ := HEND.out.1.cells
      refine bodyPost_ret (v := .tuple #[.agg #[.int .i64 0, .int .i64 0, .slice none 0 0], .int .i64 4]) (by
        simp [results, Tryz.results157, go_sem, d0, d1, d2]) rfl ?_
      rw [HPS.out]
      exact ⟨_, _, _, rfl, HEND.out.2.1, HEND.out.2.2.1, HEND.out.2.2.2⟩
  · have HPS := Lib.hid (parseBk_no (l := l) (fun h => h240 (by rw [← hr.len]; exact h.1)))
    have k1 : ((n : Int) != 240) = true := by simp; omega
    have HX := Lib.hid hX
    obtain ⟨z0, z1, z2, _⟩ := hbx.cells
    clear h240 hX hr hbx
    unfold BkObj at *
    go_enter Tryz.func157, Tryz.ntmps157
    go_wp2
    refine bodyPost_ret (v := .tuple #[.agg #[.int .i64 0, .int .i64 0, .slice none 0 0], .int .i64 4]) (by
      simp [results, Tryz.results157, go_sem, z0, z1, z2]) rfl ?_
    rw [HPS.out]
    exact ⟨none, 0, 0, rfl, Nat.le_refl _, Stays.none_ _ _, HX.out⟩
theorem Stays.grow {w w' : World} {G G' : Nat → Prop} {A : Option Addr} {n : Nat} {ps : List KV} (h : Stays w G A n ps) (hs : w.heap.size ≤ w'.heap.size) (hk : ∀ k, k < w.heap.size → ¬ G k → w'.heap[k]? = w.heap[k]?) (hG : ∀ k, k < w.heap.size → ¬ G k → ¬ G' k) : Stays w' G' A n ps :=
  fun W hW hkW => h W (Nat.le_trans hs hW) (fun k h1 h2 => (hkW k (Nat.lt_of_lt_of_le h1 hs) (hG k h1 h2)).trans (hk k h1 h2))
end Go.Proofs.YtinhdimalhfgkaaGreatDoor

/-
  A list whose elements take some cells each and lead to memory, in a row that a call builds by append: what keeps it, how it grows. Condition of an append: fewer than 2^32 elements.
-/
namespace Go.Proofs.YtinhdimalhfgkaaGreatDoor
open Go.RowKit
set_option maxRecDepth 100000
set_option linter.unusedVariables false

theorem gown_at {w : World} {base e size m : Nat} {v : Value} {xs : List Value} (h : w.ownsRow base e size v m xs) : ∀ g, v.ownBlock = some g → base ≤ g ∧ g < w.heap.size := by
  intro g hg
  rcases h.2 with ⟨rfl, _⟩ | ⟨g', cap, cur, rfl, hb, hh, _⟩
  · simp [Value.ownBlock] at hg
  · simp [Value.ownBlock] at hg
    subst hg
    exact ⟨hb, (Array.getElem?_eq_some_iff.1 hh).1⟩
theorem gown_stays {w w' : World} {base e size m : Nat} {v : Value} {xs : List Value} (h : w.ownsRow base e size v m xs) (hk : ∀ g, v.ownBlock = some g → w'.heap[g]? = w.heap[g]?) : w'.ownsRow base e size v m xs := by
  rcases h.2 with h' | ⟨g, cap, cur, rfl, hg, hb, h3⟩
  · exact ⟨h.1, .inl h'⟩
  · exact ⟨h.1, .inr ⟨g, cap, cur, rfl, hg, (hk g (by simp [Value.ownBlock])).trans hb, h3⟩⟩

/-- What R says of an element's cells stands while blocks that are not Y's do. -/
def KeptL {β : Type} (R : World → (Nat → Prop) → List Value → β → Prop) : Prop := ∀ {w w' : World} {Y Y' : Nat → Prop} {us : List Value} {x : β}, R w Y us x → w.heap.size ≤ w'.heap.size → (∀ k, k < w.heap.size → ¬ Y k → ¬ Y' k) → (∀ k, k < w.heap.size → ¬ Y k → w'.heap[k]? = w.heap[k]?) → R w' Y' us x

/-- The list l in a row from block base on; its elements lie apart from the blocks Y, the row's own among them. -/
structure GRow {β : Type} (R : World → (Nat → Prop) → List Value → β → Prop) (e : TypeId) (size : Nat) (w : World) (Y : Nat → Prop) (base : Nat) (v : Value) (l : List β) : Prop where
  row : ∃ vs, w.ownsRow base e size v l.length vs ∧ ∀ (i : Nat) (x : β), l[i]? = some x → R w Y ((vs.drop (i * size)).take size) x
  own : ∀ r, v.ownBlock = some r → Y r

section
variable {β : Type} {R : World → (Nat → Prop) → List Value → β → Prop} {e : TypeId} {size : Nat} {w w' : World} {Y Y' : Nat → Prop} {base : Nat} {v : Value} {l : List β}

theorem GRow.start (w : World) (Y : Nat → Prop) (base : Nat) : GRow R e size w Y base (.slice none 0 0) [] :=
  ⟨⟨[], ⟨by simp, .inl ⟨rfl, rfl⟩⟩, fun i x h => by simp at h⟩, fun r h => by simp [Value.ownBlock] at h⟩
theorem GRow.at_ (h : GRow R e size w Y base v l) : ∀ g, v.ownBlock = some g → base ≤ g ∧ g < w.heap.size := by
  obtain ⟨vs, h1, _⟩ := h.row
  exact gown_at h1
theorem GRow.keep (K : KeptL R) (h : GRow R e size w Y base v l) (hs : w.heap.size ≤ w'.heap.size) (hY : ∀ k, k < w.heap.size → ¬ Y k → ¬ Y' k) (hk : ∀ k, k < w.heap.size → ¬ Y k → w'.heap[k]? = w.heap[k]?) (ho : ∀ r, v.ownBlock = some r → w'.heap[r]? = w.heap[r]? ∧ Y' r) : GRow R e size w' Y' base v l := by
  obtain ⟨vs, h1, h2⟩ := h.row
  exact ⟨⟨vs, gown_stays h1 (fun g hg => (ho g hg).1), fun i x hx => K (h2 i x hx) hs hY hk⟩, fun r hr => (ho r hr).2⟩
theorem GRow.below (K : KeptL R) (h : GRow R e size w Y base v l) (hb : Below w.heap.size w w') : GRow R e size w' Y base v l :=
  h.keep K hb.size (fun _ _ h => h) (fun k hk _ => hb.block k hk) (fun r hr => ⟨hb.block r (h.at_ r hr).2, h.own r hr⟩)
theorem GRow.shape (h : GRow R e size w Y base v l) : ∃ A c, v = .slice A l.length c ∧ l.length ≤ c := by
  obtain ⟨vs, h1, _⟩ := h.row
  rcases h1.2 with ⟨rfl, h0⟩ | ⟨g, cap, cur, rfl, hb, hg, hc, _⟩
  · rw [h0]; exact ⟨none, 0, rfl, Nat.le_refl _⟩
  · exact ⟨_, cap, rfl, hc⟩

/-- append of one element, its cells in block b. -/
theorem GRow.append (K : KeptL R) (h : GRow R e size w Y base v l) {t ty : TypeId} {i0 : TypeInfo} {z : Value} {bytes : Nat} (ht : Tryz.prog.underlying t = some (.slice e)) (hi : Tryz.prog.info? e = some i0) (hz0 : i0.zero = some z) (hz1 : i0.size = size) (hz2 : i0.bytes = bytes) (hzc : z.cells.size = size) (hsz : 0 < size) (hby : bytes ≤ 64)
    {us : List Value} {x : β} {b : Nat} {T : TypeId} (hu : R w Y us x) (hul : us.length = size) (h1 : ∀ u ∈ us, u.oneCell' = true) (hb : w.heap[b]? = some (.cells us.toArray T)) (hn : l.length ≤ 4294967296) (hbase : base ≤ w.heap.size) :
    ∃ v' w', (Builtin.append_ #[t, t] ty #[v, .slice (some ⟨b, 0, none⟩) 1 1]).run Tryz.prog w = .ok v' w' ∧ GRow R e size w' (fun k => Y k ∨ v'.ownBlock = some k) base v' (l ++ [x]) ∧ w.grownBy w' v.ownBlock ∧ (v'.ownBlock = v.ownBlock ∨ v'.ownBlock = some w.heap.size) ∧ ∃ A c, v' = .slice A (l.length + 1) c := by
  obtain ⟨vs, hown, hvs⟩ := h.row
  have hvl : vs.length = l.length * size := hown.1
  have hlen : (l ++ [x]).length = l.length + 1 := by simp
  obtain ⟨v', w', hrun, h2, h3, _, h4⟩ := run_append_own_at (P := Tryz.prog) w base t ty e i0 z size bytes ht hi hz0 hz1 hz2 hzc hsz v l.length vs hown ⟨b, 0, none⟩ 1 1 us (by simp [hul]) (World.news_of_block (cs := us.toArray) hb) h1 (by unfold maxLen; omega) (by
    have : (l.length + 1) * bytes ≤ (l.length + 1) * 64 := Nat.mul_le_mul_left _ hby
    omega) hbase
  have hwk : ∀ k, k < w.heap.size → ¬ Y k → w'.heap[k]? = w.heap[k]? := fun k hk hy => h3.block k hk (fun e => hy (h.own k e.symm))
  refine ⟨v', w', hrun, ⟨⟨vs ++ us, by rw [hlen]; exact h2, fun i y hy => ?_⟩, fun r hr => .inr hr⟩, h3, h4, ?_⟩
  · have far : ∀ {us : List Value} {y : β}, R w Y us y → R w' (fun k => Y k ∨ v'.ownBlock = some k) us y := fun hr => K hr h3.size (fun k hk hy hh => by
      rcases hh with a | a
      · exact hy a
      · rcases h4 with q | q
        · rw [q] at a; exact hy (h.own k a)
        · rw [q] at a; injection a with a; omega) hwk
    rcases Nat.lt_or_ge i l.length with hi' | hi'
    · rw [List.getElem?_append_left hi'] at hy
      have hle : i * size + size ≤ l.length * size := by
        have := Nat.mul_le_mul_right size (show i + 1 ≤ l.length from hi')
        rwa [Nat.add_mul, Nat.one_mul] at this
      rw [List.drop_append_of_le_length (by omega), List.take_append_of_le_length (by rw [List.length_drop]; omega)]
      exact far (hvs i y hy)
    · rw [List.getElem?_append_right hi'] at hy
      have hi0 : i - l.length = 0 := by
        have := (List.getElem?_eq_some_iff.1 hy).1
        simp at this
        omega
      rw [hi0] at hy
      obtain rfl : x = y := by simpa using hy
      obtain rfl : i = l.length := by omega
      rw [← hvl, List.drop_left, ← hul, List.take_length]
      exact far hu
  · obtain ⟨g, cap, e, _⟩ := h2.form (Nat.succ_pos _)
    exact ⟨_, cap, e⟩
end

end Go.Proofs.YtinhdimalhfgkaaGreatDoor

/-
  A bucket with its page as it lies in memory; the bucket on a page, read: contract of leafAt, where the page is there and has a bucket. Conditions: numbers and lengths are ints.
-/
namespace Go.Proofs.YtinhdimalhfgkaaGreatDoor
open Go.RowKit
set_option maxRecDepth 100000
set_option linter.unusedVariables false

theorem box_four {w : World} {b : Nat} {T : TypeId} {a0 a1 a2 a3 : Value} (h : w.heap[b]? = some (.cells #[a0, a1, a2, a3] T (0, 0))) (x0 x1 x2 x3 : Value) : ((((w.setCell ⟨b, 0, none⟩ x0).setCell ⟨b, 1, none⟩ x1).setCell ⟨b, 2, none⟩ x2).setCell ⟨b, 3, none⟩ x3).heap[b]? = some (.cells #[x0, x1, x2, x3] T (0, 0)) := by
  have h0 := heap_setCell_same _ b 0 _ _ x0 h
  have h1 := heap_setCell_same _ b 1 _ _ x1 h0
  have h2 := heap_setCell_same _ b 2 _ _ x2 h1
  have h3 := heap_setCell_same _ b 3 _ _ x3 h2
  simpa using h3
theorem cells_four {w : World} {b : Nat} {T : TypeId} {a0 a1 a2 a3 : Value} (h : w.heap[b]? = some (.cells #[a0, a1, a2, a3] T (0, 0))) : w.cell? ⟨b, 0, none⟩ = some a0 ∧ w.cell? ⟨b, 1, none⟩ = some a1 ∧ w.cell? ⟨b, 2, none⟩ = some a2 ∧ w.cell? ⟨b, 3, none⟩ = some a3 ∧ (∀ i, w.frozen? ⟨b, i, none⟩ = false) ∧ b < w.heap.size := by
  refine ⟨?_, ?_, ?_, ?_, fun i => by simp [World.frozen?, h], (Array.getElem?_eq_some_iff.1 h).1⟩ <;> (rw [cell_of_row w b _ _ _ (0, 0) h]; rfl)
theorem below_four {w w' : World} {B b : Nat} (h : Below B w w') (hb : B ≤ b) (x0 x1 x2 x3 : Value) : Below B w ((((w'.setCell ⟨b, 0, none⟩ x0).setCell ⟨b, 1, none⟩ x1).setCell ⟨b, 2, none⟩ x2).setCell ⟨b, 3, none⟩ x3) :=
  (((h.setCell (p := ⟨b, 0, none⟩) hb _).setCell (p := ⟨b, 1, none⟩) hb _).setCell (p := ⟨b, 2, none⟩) hb _).setCell (p := ⟨b, 3, none⟩) hb _

/-- A bucket with its page. -/
structure Leaf where
  pg : Int
  d : Int
  x : Int
  ps : List KV
def Leaf.bv (l : Leaf) : BV := ⟨l.d, l.x, l.ps⟩
/-- A bucket with its page, as a value. -/
def LeafV (w : World) (G : Nat → Prop) (v : Value) (l : Leaf) : Prop := ∃ A n c, v = .agg #[.int .i64 l.pg, .int .i64 l.d, .int .i64 l.x, .slice A n c] ∧ n ≤ c ∧ n ≤ maxLen ∧ Stays w G A n l.ps

section
variable {D : World → (Nat → Prop) → Addr → DS → Prop} {w w' : World} {F O : Nat → Prop} {p : Addr} {S : DS} {q r b st : Nat} {seq : Int} {L : List (Int × List Int)}

/-- A store in memory, over a pager of just these pages. -/
structure SAt (D : World → (Nat → Prop) → Addr → DS → Prop) (w : World) (F O : Nat → Prop) (p : Addr) (S : DS) (q : Nat) (seq : Int) (r b st : Nat) (L : List (Int × List Int)) : Prop where
  pg : PgAt D w F O p S q seq r b L
  tab : TabF w F
  len : ∀ i, (getPg S L i).2 = 0 → (getPg S L i).1.length = 240
  sto : StAt w st r
  out : ¬ O st
theorem SAt.lt (h : SAt D w F O p S q seq r b st L) : st < w.heap.size := (Array.getElem?_eq_some_iff.1 h.sto).1
theorem SAt.below (api : DiskApi D) (h : SAt D w F O p S q seq r b st L) (hb : Below w.heap.size w w') : SAt D w' F O p S q seq r b st L := ⟨h.pg.below api hb, h.tab.below hb, h.len, (hb.block st h.lt).trans h.sto, h.out⟩

set_option maxHeartbeats 3200000 in
theorem leafAt_any (api : DiskApi D) (h : SAt D w F O p S q seq r b st L) (pg : Int) (hpg : -9223372036854775808 ≤ pg ∧ pg ≤ 9223372036854775807) {bv : BV} (hg : (getPg S L pg).2 = 0) (hp : parseBk (getPg S L pg).1 = (bv, 0)) :
    Calls Tryz.prog 96 #[.pointer (some ⟨st, 0, none⟩), .int .i64 pg] w fun e w' => ∃ v, e = .returned (.tuple #[v, .int .i64 0]) ∧ LeafV w' (fun k => k < w.heap.size) v ⟨pg, bv.d, bv.x, bv.ps⟩ ∧ Below w.heap.size w w' := by
  have hX : Below w.heap.size w (w.alloc (.cells #[.int .i64 0, .int .i64 0, .int .i64 0, .slice none 0 0] 92)) := (Below.refl _ _).alloc (Nat.le_refl _) _
  have hz : (w.alloc (.cells #[.int .i64 0, .int .i64 0, .int .i64 0, .slice none 0 0] 92)).heap[w.heap.size]? = some (.cells #[.int .i64 0, .int .i64 0, .int .i64 0, .slice none 0 0] 92 (0, 0)) := heap_alloc_new _ _
  have HG := Lib.hid (pget_any api (h.pg.below api hX) (h.tab.below hX) pg hpg)
  have hst := (h.below api hX).sto.cell
  have HX := Lib.hid (And.intro hX hz)
  have HP := Lib.hid hp
  have hln := h.len pg hg
  rw [hg] at HG
  generalize (getPg S L pg).1 = data at HG HP hln
  clear h hX hz hp hg
  go_enter Tryz.func96, Tryz.ntmps96
  go_wp2_with fail
  refine HG.out.mono ?_
  rintro e w1 ⟨A, n, c, rfl, hc, hr, hb1⟩
  have hn : n ≤ maxLen := by rw [← hr.len, hln]; decide
  have HB1 := Lib.hid (And.intro (HX.out.1.trans (hb1.mono HX.out.1.size)) ((hb1.block w.heap.size (by simp)).trans HX.out.2))
  have HPC := Lib.hid (bkParse_own (c := c) hr (Nat.le_refl _) hc hn)
  rw [HP.out] at HPC
  clear hr hb1 HX hst HG hn hln
  go_wp2_with fail
  refine HPC.out.mono ?_
  rintro e w2 ⟨A2, n2, c2, rfl, hc2, hs2, hb2⟩
  have hk2 : (w2.alloc (.cells #[.int .i64 bv.d, .int .i64 bv.x, .slice A2 n2 c2] 90)).heap[w.heap.size]? = some (.cells #[.int .i64 0, .int .i64 0, .int .i64 0, .slice none 0 0] 92 (0, 0)) := by
    have h1 : w.heap.size < w1.heap.size := (Array.getElem?_eq_some_iff.1 HB1.out.2).1
    exact (Below.heap_alloc _ _ _ (Nat.lt_of_lt_of_le h1 hb2.size)).trans ((hb2.block _ h1).trans HB1.out.2)
  obtain ⟨z0, z1, z2, z3, fz, zl⟩ := cells_four hk2
  have f0 := fz 0
  have f1 := fz 1
  have f2 := fz 2
  have f3 := fz 3
  have hb3 : Below w.heap.size w (w2.alloc (.cells #[.int .i64 bv.d, .int .i64 bv.x, .slice A2 n2 c2] 90)) := HB1.out.1.trans ((hb2.trans ((Below.refl w1.heap.size w2).alloc hb2.size _)).mono HB1.out.1.size)
  have HEND := Lib.hid (And.intro (box_four hk2 (.int .i64 pg) (.int .i64 bv.d) (.int .i64 bv.x) (.slice A2 n2 c2)) (And.intro (below_four hb3 (Nat.le_refl _) (.int .i64 pg) (.int .i64 bv.d) (.int .i64 bv.x) (.slice A2 n2 c2)) (show Stays ((((((w2.alloc (.cells #[.int .i64 bv.d, .int .i64 bv.x, .slice A2 n2 c2] 90)).setCell ⟨w.heap.size, 0, none⟩ (.int .i64 pg))).setCell ⟨w.heap.size, 1, none⟩ (.int .i64 bv.d)).setCell ⟨w.heap.size, 2, none⟩ (.int .i64 bv.x)).setCell ⟨w.heap.size, 3, none⟩ (.slice A2 n2 c2)) (fun k => k < w.heap.size) A2 n2 bv.ps from by
    have h1 : w.heap.size < w1.heap.size := (Array.getElem?_eq_some_iff.1 HB1.out.2).1
    have s1 := hs2.below (w' := w2.alloc (.cells #[.int .i64 bv.d, .int .i64 bv.x, .slice A2 n2 c2] 90)) ((Below.refl _ _).alloc (Nat.le_refl _) _)
    have s2 := (((s1.setCell (p := ⟨w.heap.size, 0, none⟩) (Nat.le_of_lt h1) (.int .i64 pg)).setCell (p := ⟨w.heap.size, 1, none⟩) (Nat.le_of_lt h1) (.int .i64 bv.d)).setCell (p := ⟨w.heap.size, 2, none⟩) (Nat.le_of_lt h1) (.int .i64 bv.x)).setCell (p := ⟨w.heap.size, 3, none⟩) (Nat.le_of_lt h1) (.slice A2 n2 c2)
    exact s2.grow (Nat.le_refl _) (fun _ _ _ => rfl) (fun k _ hk => fun h => hk (by omega)))))
  have hn2 : n2 ≤ maxLen := by
    have h1 := hs2.now.len
    have h2 := readBk_few data
    have h3 : bv.ps.length ≤ 116 := by
      have e : parseBk data = (bv, 0) := HP.out
      unfold parseBk at e
      split at e
      · injection e with e1 _
        rw [← e1]
        exact h2.2
      · injection e with e1 e2
        exact absurd e2 (by decide)
    unfold maxLen
    omega
  clear hs2 hb2 hk2 hb3 fz HPC HB1 HP
  go_wp2
  generalize hXX : ((((((w2.alloc (.cells #[.int .i64 bv.d, .int .i64 bv.x, .slice A2 n2 c2] 90)).setCell ⟨w.heap.size, 0, none⟩ (.int .i64 pg))).setCell ⟨w.heap.size, 1, none⟩ (.int .i64 bv.d)).setCell ⟨w.heap.size, 2, none⟩ (.int .i64 bv.x)).setCell ⟨w.heap.size, 3, none⟩ (.slice A2 n2 c2)) = X at *
  obtain ⟨d0, d1, d2, d3, _⟩ := cells_four HEND.out.1
  refine bodyPost_ret (v := .tuple #[.agg #[.int .i64 pg, .int .i64 bv.d, .int .i64 bv.x, .slice A2 n2 c2], .int .i64 0]) (by
    simp [results, Tryz.results96, go_sem, d0, d1, d2, d3]) rfl ?_
  exact ⟨_, rfl, ⟨_, _, _, rfl, hc2, hn2, HEND.out.2.2⟩, HEND.out.2.1⟩
end
end Go.Proofs.YtinhdimalhfgkaaGreatDoor

/-
  Pairs that lie apart from some blocks: which blocks they lie in; one pair more, in a new row. Condition: fewer than 2^32 pairs.
-/
namespace Go.Proofs.YtinhdimalhfgkaaGreatDoor
open Go.RowKit
set_option maxRecDepth 100000
set_option linter.unusedVariables false

/-- Bytes apart from the blocks G. -/
def BIn (w : World) (G : Nat → Prop) (A : Option Addr) (n : Nat) (l : List Int) : Prop := RB w w.heap.size A n l ∧ ∀ a, A = some a → 0 < n → ¬ G a.block
/-- Pairs apart from the blocks G. -/
def PIn (w : World) (G : Nat → Prop) (A : Option Addr) (n : Nat) (ps : List KV) : Prop :=
  ps.length = n ∧ (0 < n → ∃ b off, A = some ⟨b, off, none⟩ ∧ b < w.heap.size ∧ ¬ G b ∧ ∀ (j : Nat) (x : KV), ps[j]? = some x → ∃ (ka : Option Addr) (kn kc : Nat) (va : Option Addr) (vn vc : Nat), w.cell? ⟨b, off + j * 2, none⟩ = some (.slice ka kn kc) ∧ w.cell? ⟨b, off + j * 2 + 1, none⟩ = some (.slice va vn vc) ∧ BIn w G ka kn x.1 ∧ (kn ≤ kc ∧ kn ≤ maxLen) ∧ BIn w G va vn x.2 ∧ (vn ≤ vc ∧ vn ≤ maxLen))

section
variable {w w' w0 : World} {G G' : Nat → Prop} {A : Option Addr} {n : Nat} {l : List Int} {ps : List KV}
theorem BIn.grow (h : BIn w G A n l) (hs : w.heap.size ≤ w'.heap.size) (hk : ∀ k, k < w.heap.size → ¬ G k → w'.heap[k]? = w.heap[k]?) (hG : ∀ k, k < w.heap.size → ¬ G k → ¬ G' k) : BIn w' G' A n l := by
  obtain ⟨h1, h2⟩ := h
  refine ⟨⟨h1.1, h1.2.1, fun hn => ?_⟩, fun a ha hn => ?_⟩
  · obtain ⟨b, off, e, hb, hc⟩ := h1.2.2 hn
    exact ⟨b, off, e, Nat.lt_of_lt_of_le hb hs, fun j hj => (World.cell?_of_block (a := ⟨b, off + j, none⟩) (hk b hb (h2 _ e hn))).trans (hc j hj)⟩
  · obtain ⟨b, off, e, hb, hc⟩ := h1.2.2 hn
    have e2 := ha
    rw [e] at e2
    cases e2
    exact hG _ hb (h2 _ e hn)
theorem BIn.below (h : BIn w G A n l) (hb : Below w.heap.size w w') : BIn w' G A n l := h.grow hb.size (fun k hk _ => hb.block k hk) (fun _ _ h => h)
theorem BIn.of_below (h : RB w0 w0.heap.size A n l) (hb : Below w0.heap.size w0 w) (hG : ∀ k, G k → w0.heap.size ≤ k) : BIn w G A n l := by
  refine ⟨(h.below hb).more hb.size, fun a ha hn hg => ?_⟩
  obtain ⟨b, off, e, hb', _⟩ := h.2.2 hn
  rw [e] at ha
  cases ha
  have := hG _ hg
  have : w0.heap.size ≤ b := this
  omega
theorem PIn.stays (h : PIn w G A n ps) : Stays w G A n ps := fun W hW hk => by
  refine ⟨h.1, fun hn => ?_⟩
  obtain ⟨b, off, e, hb, hgb, hall⟩ := h.2 hn
  refine ⟨b, off, e, Nat.lt_of_lt_of_le hb hW, fun j x hx => ?_⟩
  obtain ⟨ka, kn, kc, va, vn, vc, c0, c1, r1, b1, r2, b2⟩ := hall j x hx
  exact ⟨ka, kn, kc, va, vn, vc, (World.cell?_of_block (a := ⟨b, off + j * 2, none⟩) (hk b hb hgb)).trans c0, (World.cell?_of_block (a := ⟨b, off + j * 2 + 1, none⟩) (hk b hb hgb)).trans c1, (r1.grow hW hk (fun _ _ h => h)).1, b1, (r2.grow hW hk (fun _ _ h => h)).1, b2⟩

/-- A world with an empty block. -/
def emptied (w : World) (b : Nat) : World := { w with heap := w.heap.modify b (fun _ => .cells #[] 0) }
theorem emptied_size (w : World) (b : Nat) : (emptied w b).heap.size = w.heap.size := by simp [emptied]
theorem emptied_other (w : World) {b k : Nat} (h : k ≠ b) : (emptied w b).heap[k]? = w.heap[k]? := by
  simp [emptied, Array.getElem?_modify, Ne.symm h]
theorem emptied_cell (w : World) (b i : Nat) : (emptied w b).cell? ⟨b, i, none⟩ = none := by
  rcases Nat.lt_or_ge b w.heap.size with hb | hb
  · have : (emptied w b).heap[b]? = some (.cells #[] 0 (0, 0)) := by
      simp [emptied, Array.getElem_modify, hb]
    rw [cell_of_row _ b i _ _ (0, 0) this]
    rfl
  · have : (emptied w b).heap[b]? = none := Array.getElem?_eq_none (by rw [emptied_size]; exact hb)
    cases hc : (emptied w b).cell? ⟨b, i, none⟩ with
    | none => rfl
    | some v =>
      have := World.block_lt_of_cell? _ _ hc
      rw [emptied_size] at this
      have : b < w.heap.size := this
      omega
theorem Stays.apart (h : Stays w G A n ps) {b : Nat} (hg : G b) : RPairs (emptied w b) (emptied w b).heap.size A n ps := h _ (by rw [emptied_size]; exact Nat.le_refl _) (fun k _ hk => emptied_other w (fun e => hk (by rw [e]; exact hg)))
theorem RB.not_emptied {b B : Nat} (h : RB (emptied w b) B A n l) (hn : 0 < n) : ∀ a, A = some a → a.block ≠ b := fun a ha e => by
  obtain ⟨b', off, e', hb', hc⟩ := h.2.2 hn
  rw [e'] at ha
  cases ha
  have e : b' = b := e
  subst e
  have := hc 0 hn
  rw [emptied_cell] at this
  cases this
theorem Stays.pin (h : Stays w G A n ps) : PIn w G A n ps := by
  refine ⟨h.now.1, fun hn => ?_⟩
  obtain ⟨b, off, e, hb, hall⟩ := h.now.2 hn
  have hx0 : ∃ x, ps[0]? = some x := ⟨_, List.getElem?_eq_getElem (by rw [h.now.1]; exact hn)⟩
  have hgb : ¬ G b := fun hg => by
    obtain ⟨b', off', e', hb', hall'⟩ := (h.apart hg).2 hn
    rw [e] at e'
    cases e'
    obtain ⟨x, hx⟩ := hx0
    obtain ⟨_, _, _, _, _, _, c0, _⟩ := hall' 0 x hx
    rw [emptied_cell] at c0
    cases c0
  refine ⟨b, off, e, hb, hgb, fun j x hx => ?_⟩
  obtain ⟨ka, kn, kc, va, vn, vc, c0, c1, r1, b1, r2, b2⟩ := hall j x hx
  have other : ∀ b2, G b2 → RB (emptied w b2) (emptied w b2).heap.size ka kn x.1 ∧ RB (emptied w b2) (emptied w b2).heap.size va vn x.2 := fun b2 hg => by
    obtain ⟨b', off', e', hb', hall'⟩ := (h.apart hg).2 hn
    rw [e] at e'
    cases e'
    obtain ⟨ka', kn', kc', va', vn', vc', c0', c1', r1', _, r2', _⟩ := hall' j x hx
    have hne : b ≠ b2 := fun e => hgb (by rw [e]; exact hg)
    rw [World.cell?_of_block (a := ⟨b, off + j * 2, none⟩) (emptied_other w hne), c0] at c0'
    rw [World.cell?_of_block (a := ⟨b, off + j * 2 + 1, none⟩) (emptied_other w hne), c1] at c1'
    cases c0'
    cases c1'
    exact ⟨r1', r2'⟩
  exact ⟨ka, kn, kc, va, vn, vc, c0, c1, ⟨r1, fun a ha hn' hg => (other _ hg).1.not_emptied hn' a ha rfl⟩, b1, ⟨r2, fun a ha hn' hg => (other _ hg).2.not_emptied hn' a ha rfl⟩, b2⟩
end

theorem info_pairX : (Tryz.prog.info? 95).map (fun i => (i.zero, i.size, i.bytes)) = some (some (.agg #[.slice none 0 0, .slice none 0 0]), 2, 48) := by kernel_rfl

section
variable {w w' : World} {G : Nat → Prop} {A : Option Addr} {n : Nat} {ps : List KV} {x : KV} {ka va : Option Addr} {kn kc vn vc b : Nat}
/-- One pair more, in a new row. -/
theorem pairs_grow (h : Stays w G A n ps) (hG : ∀ k, G k → k < w.heap.size) (hk : BIn w G ka kn x.1) (hv : BIn w G va vn x.2) (hkc : kn ≤ kc ∧ kn ≤ maxLen) (hvc : vn ≤ vc ∧ vn ≤ maxLen) (hb : w.heap[b]? = some (.cells #[.slice ka kn kc, .slice va vn vc] 95 (0, 0))) (hn : n ≤ 4294967296) (ty : TypeId) :
    ∃ g c' w', (Builtin.append_ #[31, 31] ty #[.slice A n n, .slice (some ⟨b, 0, none⟩) 1 1]).run Tryz.prog w = .ok (.slice (some ⟨g, 0, none⟩) (n + 1) c') w' ∧ n + 1 ≤ c' ∧ Stays w' G (some ⟨g, 0, none⟩) (n + 1) (ps ++ [x]) ∧ Below w.heap.size w w' := by
  obtain ⟨i0, hi, hz0, hz1, hz2⟩ := info_parts info_pairX
  obtain ⟨hl, hp⟩ := h.pin
  obtain ⟨olds, hol, hrow, hcell⟩ : ∃ olds : List Value, olds.length = n * 2 ∧ (Builtin.firstCells i0.size n (.slice A n n)).run Tryz.prog w.drew = .ok olds.toArray w.drew ∧ (∀ (j : Nat) (y : KV), ps[j]? = some y → ∃ (ka : Option Addr) (kn kc : Nat) (va : Option Addr) (vn vc : Nat), olds[j * 2]? = some (.slice ka kn kc) ∧ olds[j * 2 + 1]? = some (.slice va vn vc) ∧ BIn w G ka kn y.1 ∧ (kn ≤ kc ∧ kn ≤ maxLen) ∧ BIn w G va vn y.2 ∧ (vn ≤ vc ∧ vn ≤ maxLen)) := by
    rcases Nat.eq_zero_or_pos n with h0 | h0
    · subst h0
      refine ⟨[], rfl, ?_, fun j y hy => ?_⟩
      · cases A with
        | none => exact run_firstCells_none w.drew i0.size 0 0 0
        | some a => exact run_firstCells_some (P := Tryz.prog) w.drew i0.size 0 a 0 0 [] (by simp) (fun j v h => by cases h)
      · rw [List.eq_nil_of_length_eq_zero hl] at hy; cases hy
    · obtain ⟨b', off, rfl, hb', hgb, hall⟩ := hp h0
      have hcl : ∀ j, j < n * 2 → ∃ u, w.cell? ⟨b', off + j, none⟩ = some u := fun j hj => by
        obtain ⟨y, hy⟩ : ∃ y, ps[j / 2]? = some y := ⟨_, List.getElem?_eq_getElem (by omega)⟩
        obtain ⟨_, _, _, _, _, _, c0, c1, _⟩ := hall _ y hy
        rcases Nat.mod_two_eq_zero_or_one j with e | e
        · exact ⟨_, by rw [show off + j = off + j / 2 * 2 by omega]; exact c0⟩
        · exact ⟨_, by rw [show off + j = off + j / 2 * 2 + 1 by omega]; exact c1⟩
      have hget : ∀ j, j < n * 2 → ((List.range (n * 2)).map fun j => (w.cell? ⟨b', off + j, none⟩).getD (.bool false))[j]? = w.cell? ⟨b', off + j, none⟩ := fun j hj => by
        obtain ⟨u, hu⟩ := hcl j hj
        rw [List.getElem?_map, List.getElem?_range hj, Option.map_some, hu, Option.getD_some]
      refine ⟨(List.range (n * 2)).map fun j => (w.cell? ⟨b', off + j, none⟩).getD (.bool false), by simp, ?_, fun j y hy => ?_⟩
      · refine run_firstCells_some (P := Tryz.prog) w.drew i0.size n ⟨b', off, none⟩ n n _ (by rw [hz1]; simp) (fun j v hv => ?_)
        have hj : j < n * 2 := by
          have := (List.getElem?_eq_some_iff.1 hv).1
          simpa using this
        rw [hget j hj] at hv
        rw [show (⟨b', off, none⟩ : Addr).add j = ⟨b', off + j, none⟩ by unfold Addr.add; split <;> simp_all]
        exact hv
      · obtain ⟨ka, kn, kc, va, vn, vc, c0, c1, r⟩ := hall j y hy
        have hj : j < n := by rw [← hl]; exact (List.getElem?_eq_some_iff.1 hy).1
        exact ⟨ka, kn, kc, va, vn, vc, by rw [hget _ (by omega)]; exact c0, by rw [hget _ (by omega), ← Nat.add_assoc]; exact c1, r⟩
  have hrun := run_append_grow_src (P := Tryz.prog) (w := w) 31 31 ty 95 i0 _ Tryz.underlying31 hi hz0 A n n olds hrow (.slice (some ⟨b, 0, none⟩) 1 1) 1 [Value.slice ka kn kc, Value.slice va vn vc] (Src.ofSlice w Tryz.underlying31 ⟨b, 0, none⟩ 1 1 [Value.slice ka kn kc, Value.slice va vn vc] (by rw [hz1]; rfl) (World.news_of_block (cs := #[.slice ka kn kc, .slice va vn vc]) hb) (fun u hu => by
    simp only [List.mem_cons, List.not_mem_nil, or_false] at hu
    rcases hu with rfl | rfl <;> rfl)) (by omega) (by omega) (by rw [hz2]; exact growslice_fits (by omega) (by omega))
  have hge := grownCap_ge w (n + 1) n 95
  generalize grownCap w (n + 1) n 95 = cap at hrun hge
  generalize hz : Builtin.zeroCells (Value.agg #[.slice none 0 0, .slice none 0 0]).cells (cap - (n + 1)) = zs at hrun
  refine ⟨w.heap.size, cap, _, hrun, hge, PIn.stays ⟨by simp [hl], fun _ => ⟨w.heap.size, 0, rfl, ?_, fun hg => absurd (hG _ hg) (Nat.lt_irrefl _), fun j y hy => ?_⟩⟩, (Below.refl _ _).drew.alloc (Nat.le_refl _) _⟩
  · show w.heap.size < (w.drew.heap.push _).size
    rw [Array.size_push]
    exact Nat.lt_succ_self _
  · have hblk := heap_alloc_new w.drew (.cells ((olds ++ [Value.slice ka kn kc, Value.slice va vn vc]).toArray ++ zs) 95)
    have hbel : Below w.heap.size w (w.drew.alloc (.cells ((olds ++ [Value.slice ka kn kc, Value.slice va vn vc]).toArray ++ zs) 95)) := (Below.refl _ _).drew.alloc (Nat.le_refl _) _
    have hcl : ∀ (k : Nat) (u : Value), (olds ++ [Value.slice ka kn kc, Value.slice va vn vc])[k]? = some u → (w.drew.alloc (.cells ((olds ++ [Value.slice ka kn kc, Value.slice va vn vc]).toArray ++ zs) 95)).cell? ⟨w.heap.size, 0 + k, none⟩ = some u := fun k u hu => by
      rw [Nat.zero_add, cell_of_row _ w.heap.size k _ 95 (0, 0) hblk]
      have hk' := (List.getElem?_eq_some_iff.1 hu).1
      rw [Array.getElem?_append_left (by simpa using hk')]
      simpa using hu
    rcases Nat.lt_or_ge j n with hj | hj
    · rw [List.getElem?_append_left (by omega)] at hy
      obtain ⟨ka', kn', kc', va', vn', vc', c0, c1, r1, b1, r2, b2⟩ := hcell j y hy
      exact ⟨ka', kn', kc', va', vn', vc', hcl _ _ (by rw [List.getElem?_append_left (show j * 2 < olds.length by omega)]; exact c0), hcl _ _ (by rw [List.getElem?_append_left (show j * 2 + 1 < olds.length by omega)]; exact c1), r1.below hbel, b1, r2.below hbel, b2⟩
    · have hjn : j = n := by
        have := (List.getElem?_eq_some_iff.1 hy).1
        simp at this
        omega
      subst hjn
      rw [List.getElem?_append_right (by omega), hl, Nat.sub_self] at hy
      obtain rfl : x = y := by simpa using hy
      exact ⟨ka, kn, kc, va, vn, vc, hcl _ _ (by rw [List.getElem?_append_right (show olds.length ≤ j * 2 by omega), hol, Nat.sub_self]; rfl), hcl _ _ (by rw [List.getElem?_append_right (show olds.length ≤ j * 2 + 1 by omega), hol, show j * 2 + 1 - j * 2 = 1 by omega]; rfl), hk.below hbel, hkc, hv.below hbel, hvc⟩
end
end Go.Proofs.YtinhdimalhfgkaaGreatDoor

/-
  A bucket with one pair more: contract of leaf.with. Condition: fewer than 2^32 pairs.
-/
namespace Go.Proofs.YtinhdimalhfgkaaGreatDoor
open Go.RowKit
set_option maxRecDepth 100000
set_option linter.unusedVariables false

set_option maxHeartbeats 400000 in
theorem clipP_any {w : World} {A : Option Addr} {n c : Nat} (hc : n ≤ c) : Calls Tryz.prog 189 #[.slice A n c] w fun e w' => e = .returned (.slice A n n) ∧ w = w' := by
  go_enter Tryz.func189, Tryz.ntmps189
  go_wp2
  go_ret
  exact ⟨rfl, rfl⟩

theorem step_run_append {P : Program} {ops : Array Oper} {o : Oper} {a : Act} {w : World} {K : Act → World → Prop} {Q : Exit → Act → World → Prop} {E : Prop} (hgd : o.guard = none) (s x : Operand) (t tn : TypeId)
    (ho : o.op = .call { callee := .builtin .append, args := #[s, x], argTypes := #[t, tn] }) (v u : Value) (hs : a.eval s = v) (hx : a.eval x = u) {v' : Value} {w' : World}
    (hrun : (Builtin.append_ #[t, tn] o.type #[v, u]).run P w = .ok v' w') (h : K (a.put o.dst v') w') :
    if Region.wanted o (yielded ops a.tmps) = true then Oper.wp P o a w K Q else E := by
  have hw : Region.wanted o (yielded ops a.tmps) = true := by simp [Region.wanted, hgd]
  rw [if_pos hw]
  exact Lib.wp_append_run w s x t tn ho v u hs hx _ _ hrun h

set_option maxHeartbeats 3200000 in
theorem with_any {w : World} {G : Nat → Prop} {l : Leaf} {A ka va : Option Addr} {n c kn kc vn vc : Nat} {x : KV} (hc : n ≤ c) (h : Stays w G A n l.ps) (hG : ∀ k, G k → k < w.heap.size) (hk : BIn w G ka kn x.1) (hv : BIn w G va vn x.2) (hkc : kn ≤ kc ∧ kn ≤ maxLen) (hvc : vn ≤ vc ∧ vn ≤ maxLen) (hn : n ≤ 4294967296) :
    Calls Tryz.prog 126 #[.agg #[.int .i64 l.pg, .int .i64 l.d, .int .i64 l.x, .slice A n c], .agg #[.slice ka kn kc, .slice va vn vc]] w fun e w' => ∃ v, e = .returned v ∧ LeafV w' G v ⟨l.pg, l.d, l.x, l.ps ++ [x]⟩ ∧ Below w.heap.size w w' := by
  obtain ⟨pg, d, xx, ps⟩ := l
  have hX1 : Below w.heap.size w (w.alloc (.cells #[.int .i64 pg, .int .i64 d, .int .i64 xx, .slice A n c] 92)) := (Below.refl _ _).alloc (Nat.le_refl _) _
  have hX2 := hX1.alloc hX1.size (.cells #[.slice ka kn kc, .slice va vn vc] 95)
  have hX3 := hX2.alloc hX2.size (.cells #[.int .i64 0, .int .i64 0, .int .i64 0, .slice none 0 0] 92)
  have b0 := heap_alloc_new w (.cells #[.int .i64 pg, .int .i64 d, .int .i64 xx, .slice A n c] 92)
  have b1 := heap_alloc_new (w.alloc (.cells #[.int .i64 pg, .int .i64 d, .int .i64 xx, .slice A n c] 92)) (.cells #[.slice ka kn kc, .slice va vn vc] 95)
  have b2 := heap_alloc_new ((w.alloc (.cells #[.int .i64 pg, .int .i64 d, .int .i64 xx, .slice A n c] 92)).alloc (.cells #[.slice ka kn kc, .slice va vn vc] 95)) (.cells #[.int .i64 0, .int .i64 0, .int .i64 0, .slice none 0 0] 92)
  have s1 : (w.alloc (.cells #[.int .i64 pg, .int .i64 d, .int .i64 xx, .slice A n c] 92)).heap.size = w.heap.size + 1 := by simp
  have s2 : ((w.alloc (.cells #[.int .i64 pg, .int .i64 d, .int .i64 xx, .slice A n c] 92)).alloc (.cells #[.slice ka kn kc, .slice va vn vc] 95)).heap.size = w.heap.size + 1 + 1 := by simp
  rw [s1] at b1
  rw [s2] at b2
  have c1 := (Below.heap_alloc ((w.alloc (.cells #[.int .i64 pg, .int .i64 d, .int .i64 xx, .slice A n c] 92)).alloc (.cells #[.slice ka kn kc, .slice va vn vc] 95)) (.cells #[.int .i64 0, .int .i64 0, .int .i64 0, .slice none 0 0] 92) (w.heap.size + 1) (by rw [s2]; omega)).trans b1
  have c0 := (Below.heap_alloc ((w.alloc (.cells #[.int .i64 pg, .int .i64 d, .int .i64 xx, .slice A n c] 92)).alloc (.cells #[.slice ka kn kc, .slice va vn vc] 95)) (.cells #[.int .i64 0, .int .i64 0, .int .i64 0, .slice none 0 0] 92) w.heap.size (by rw [s2]; omega)).trans ((Below.heap_alloc _ (.cells #[.slice ka kn kc, .slice va vn vc] 95) w.heap.size (by rw [s1]; omega)).trans b0)
  have s3 : (((w.alloc (.cells #[.int .i64 pg, .int .i64 d, .int .i64 xx, .slice A n c] 92)).alloc (.cells #[.slice ka kn kc, .slice va vn vc] 95)).alloc (.cells #[.int .i64 0, .int .i64 0, .int .i64 0, .slice none 0 0] 92)).heap.size = w.heap.size + 3 := by simp
  clear b0 b1 hX1 hX2 s1 s2
  have HBX := Lib.hid hX3
  go_enter Tryz.func126, Tryz.ntmps126
  go_wp2_with fail
  generalize (((w.alloc (.cells #[.int .i64 pg, .int .i64 d, .int .i64 xx, .slice A n c] 92)).alloc (.cells #[.slice ka kn kc, .slice va vn vc] 95)).alloc (.cells #[.int .i64 0, .int .i64 0, .int .i64 0, .slice none 0 0] 92)) = X at *
  have hb4 : Below X.heap.size X (X.alloc (.cells #[.slice ka kn kc, .slice va vn vc] 95)).drew := ((Below.refl _ _).alloc (Nat.le_refl _) _).drew
  have hb4w := hX3.trans (hb4.mono hX3.size)
  have hG1 : ∀ k, k < w.heap.size → ¬ G k → ¬ (G k ∨ (w.heap.size ≤ k ∧ k < w.heap.size + 3)) := fun k hk hg hg' => by
    rcases hg' with a | a
    · exact hg a
    · omega
  obtain ⟨g, cc, w2, hrun, hcc, hst2, hb2⟩ := pairs_grow (G := fun k => G k ∨ (w.heap.size ≤ k ∧ k < w.heap.size + 3)) (b := X.heap.size) (kc := kc) (vc := vc) (h.grow hb4w.size (fun k hk _ => hb4w.block k hk) hG1) (fun k hk => by
    have := hb4.size
    rcases hk with a | a
    · exact Nat.lt_of_lt_of_le (hG k a) hb4w.size
    · omega) (hk.grow hb4w.size (fun k hk _ => hb4w.block k hk) hG1) (hv.grow hb4w.size (fun k hk _ => hb4w.block k hk) hG1) hkc hvc (heap_alloc_new X _) hn 31
  have hb2w := hb4w.trans (hb2.mono hb4w.size)
  have hkeep : ∀ k, k < X.heap.size → w2.heap[k]? = X.heap[k]? := fun k hk => (hb2.block k (Nat.lt_of_lt_of_le hk hb4.size)).trans (hb4.block k hk)
  have d0 := (hkeep w.heap.size (by omega)).trans c0
  have d2 := (hkeep (w.heap.size + 1 + 1) (by omega)).trans b2
  obtain ⟨x0, x1, x2, x3, fx, _⟩ := cells_four c0
  obtain ⟨y0, y1, y2, y3, fy, _⟩ := cells_four d0
  have e0 : X.cell? ⟨w.heap.size + 1, 0, none⟩ = some (.slice ka kn kc) := by rw [cell_of_row X _ 0 _ _ (0, 0) c1]; rfl
  have e1 : X.cell? ⟨w.heap.size + 1, 1, none⟩ = some (.slice va vn vc) := by rw [cell_of_row X _ 1 _ _ (0, 0) c1]; rfl
  have fy3 := fy 3
  have d0s := heap_setCell_same w2 w.heap.size 3 _ _ (.slice (some ⟨g, 0, none⟩) (n + 1) cc) d0
  have HRUN := Lib.hid hrun
  have HEND := Lib.hid (And.intro d0s (And.intro ((Below.heap_setCell w2 ⟨w.heap.size, 3, none⟩ (.slice (some ⟨g, 0, none⟩) (n + 1) cc) (w.heap.size + 1 + 1) (by simp; omega)).trans d2) (And.intro hst2 hb2w)))
  clear d0s d2 b2 d0 c0 c1 fx fy hrun hst2 hb2 hkeep hb4 hb4w hb2w hX3 h hk hv hG s3
  go_region_law (first
    | (refine step_run_append rfl (.tmp 8) (.tmp 10) _ _ rfl _ _ (by rfl) (by rfl) HRUN.out ?_)
    | (go_simp; go_at_call 189; refine (clipP_any hc).mono ?_; rintro e w1 ⟨rfl, rfl⟩))
  all_goals
    obtain ⟨W, hW⟩ : ∃ W, W = w2.setCell ⟨w.heap.size, 3, none⟩ (.slice (some ⟨g, 0, none⟩) (n + 1) cc) := ⟨_, rfl⟩
    rw [← hW]
    obtain ⟨r0, r2, rs, rb⟩ := HEND.out
    rw [← hW] at r0 r2
    have hWs : Stays W (fun k => G k ∨ (w.heap.size ≤ k ∧ k < w.heap.size + 3)) (some ⟨g, 0, none⟩) (n + 1) (ps ++ [x]) := by rw [hW]; exact rs.setCell (p := ⟨w.heap.size, 3, none⟩) (.inr ⟨Nat.le_refl _, by simp⟩) _
    have hWb : Below w.heap.size w W := by rw [hW]; exact rb.setCell (Nat.le_refl _) _
    have r0' : W.heap[w.heap.size]? = some (.cells #[.int .i64 pg, .int .i64 d, .int .i64 xx, .slice (some ⟨g, 0, none⟩) (n + 1) cc] 92 (0, 0)) := r0
    clear hW r0 rs rb x0 x1 x2 x3 y0 y1 y2 y3 e0 e1 fy3 HRUN HEND
    obtain ⟨x0, x1, x2, x3, _, _⟩ := cells_four r0'
    obtain ⟨y0, y1, y2, y3, fy, _⟩ := cells_four r2
    have f0 := fy 0
    have f1 := fy 1
    have f2 := fy 2
    have f3 := fy 3
    have HFIN := Lib.hid (And.intro (box_four r2 (.int .i64 pg) (.int .i64 d) (.int .i64 xx) (.slice (some ⟨g, 0, none⟩) (n + 1) cc)) (And.intro (below_four hWb (Nat.le_add_right _ 2) (.int .i64 pg) (.int .i64 d) (.int .i64 xx) (.slice (some ⟨g, 0, none⟩) (n + 1) cc)) (show Stays ((((W.setCell ⟨w.heap.size + 1 + 1, 0, none⟩ (.int .i64 pg)).setCell ⟨w.heap.size + 1 + 1, 1, none⟩ (.int .i64 d)).setCell ⟨w.heap.size + 1 + 1, 2, none⟩ (.int .i64 xx)).setCell ⟨w.heap.size + 1 + 1, 3, none⟩ (.slice (some ⟨g, 0, none⟩) (n + 1) cc)) G (some ⟨g, 0, none⟩) (n + 1) (ps ++ [x]) from ((((hWs.setCell (p := ⟨w.heap.size + 1 + 1, 0, none⟩) (.inr ⟨by simp; omega, by simp⟩) (.int .i64 pg)).setCell (p := ⟨w.heap.size + 1 + 1, 1, none⟩) (.inr ⟨by simp; omega, by simp⟩) (.int .i64 d)).setCell (p := ⟨w.heap.size + 1 + 1, 2, none⟩) (.inr ⟨by simp; omega, by simp⟩) (.int .i64 xx)).setCell (p := ⟨w.heap.size + 1 + 1, 3, none⟩) (.inr ⟨by simp; omega, by simp⟩) (.slice (some ⟨g, 0, none⟩) (n + 1) cc)).grow (Nat.le_refl _) (fun _ _ _ => rfl) (fun k _ h1 h2 => h1 (.inl h2)))))
    clear fy r0' r2 hWs hWb
    go_wp2
    generalize ((((W.setCell ⟨w.heap.size + 1 + 1, 0, none⟩ (.int .i64 pg)).setCell ⟨w.heap.size + 1 + 1, 1, none⟩ (.int .i64 d)).setCell ⟨w.heap.size + 1 + 1, 2, none⟩ (.int .i64 xx)).setCell ⟨w.heap.size + 1 + 1, 3, none⟩ (.slice (some ⟨g, 0, none⟩) (n + 1) cc)) = V at *
    obtain ⟨d0, d1, d2, d3, _⟩ := cells_four HFIN.out.1
    refine bodyPost_ret (v := .agg #[.int .i64 pg, .int .i64 d, .int .i64 xx, .slice (some ⟨g, 0, none⟩) (n + 1) cc]) (by
      simp [results, Tryz.results126, go_sem, d0, d1, d2, d3]) rfl ?_
    exact ⟨_, rfl, ⟨_, _, _, rfl, hcc, by unfold maxLen; omega, HFIN.out.2.2⟩, HFIN.out.2.1⟩

end Go.Proofs.YtinhdimalhfgkaaGreatDoor
