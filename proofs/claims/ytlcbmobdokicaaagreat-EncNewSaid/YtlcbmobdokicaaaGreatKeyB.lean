/-
  The texts KeyP, KeyA, KeyB joined. Conditions: those that each part says at its head.
-/
import Derived.Test.YtlcbmobdokicaaaGreatFldB
import Derived.Lib.BytesEntry
import Derived.Laws.Externs
import Derived.Lib.Walk
import Derived.Lib.Strings
import Derived.Lib.Slices
import Derived.Laws.Strings3

/-
  Keys as plain lists: a tag with numbers in 4 bytes each; what a key tells. No program; no condition beyond what each says.
-/
namespace Go.Proofs.YtlcbmobdokicaaaGreat
open Go.RowKit
set_option maxRecDepth 100000
set_option linter.unusedVariables false

/-- A tag with numbers behind it, and a key: of too many the first 7, held. -/
def tagL (t : Int) (l : List Int) : List Int := t :: packN 4 l
def keyL (t : Int) (l : List Int) : List Int := tagL t ((l.take 7).map held4)
/-- What a key tells: its tag, its numbers, whether it is one. -/
def splitR (b : List Int) : Int × List Int × Bool := if 1 ≤ b.length ∧ b.length ≤ 29 ∧ b.length % 4 = 1 then (b[0]?.getD 0, unpackN 4 b 1 (b.length / 4), true) else (0, [], false)
theorem tagL_length (t : Int) (l : List Int) : (tagL t l).length = 1 + 4 * l.length := by simp [tagL, packN_length]; omega
theorem tagL_bytes {t : Int} (h : 0 ≤ t ∧ t < 256) (l : List Int) : AllBytes (tagL t l) := fun x hx => by
  rcases List.mem_cons.1 hx with rfl | hx
  · exact h
  · exact packN_bytes 4 l x hx
theorem tagL_step (t : Int) (l : List Int) (i : Nat) (h : i < l.length) : tagL t ((l.take (i + 1)).map held4) = tagL t ((l.take i).map held4) ++ putB (held4 (l[i]?.getD 0)) 4 := by
  unfold tagL
  rw [List.take_succ_eq_append_getElem h, List.map_append, packN_append, List.cons_append]
  congr 2
  rw [List.map_singleton, packN_one]
  simp [List.getElem?_eq_getElem h]
theorem map_held4 {l : List Int} (h : ∀ x ∈ l, 0 ≤ x ∧ x < 4294967296) : l.map held4 = l := by
  conv => rhs; rw [← List.map_id l]
  exact List.map_congr_left fun x hx => held4_same (h x hx)
theorem split_key {t : Int} {l : List Int} (h : ∀ x ∈ l, 0 ≤ x ∧ x < 4294967296) (hl : l.length ≤ 7) : splitR (keyL t l) = (t, l, true) := by
  unfold keyL
  rw [List.take_of_length_le hl, map_held4 h]
  unfold splitR
  rw [tagL_length, if_pos (by omega)]
  have e : (1 + 4 * l.length) / 4 = l.length := by omega
  rw [e]
  have e2 : unpackN 4 (tagL t l) 1 l.length = l := by
    show unpackN 4 ([t] ++ packN 4 l) 1 l.length = l
    rw [unpackN_cons 4 [t] _ 1 _ rfl]
    exact unpack_pack 4 l fun x hx => num4 (h x hx)
  rw [e2]
  rfl
theorem getR_at4 {b : List Int} {n k : Nat} (hb : b.length = n) (hk : 1 + 4 * k + 4 ≤ n) : getR b ((1 + 4 * k : Nat) : Int) 4 = (numOf ((b.drop (1 + 4 * k)).take 4), 0) := by
  unfold getR
  rw [if_pos ⟨by decide, by omega⟩, if_neg (by omega)]
  rw [Int.toNat_natCast]
  rfl
theorem getR_not4 {b : List Int} {n k : Nat} (hb : b.length = n) (hk : n < 1 + 4 * k + 4) : getR b ((1 + 4 * k : Nat) : Int) 4 = (0, 3) := by
  unfold getR
  rw [if_pos ⟨by decide, by omega⟩, if_pos (by omega)]

end Go.Proofs.YtlcbmobdokicaaaGreat

/-
  Contracts of keys.Key and of the plain Key: the tag, and of any ints the first 7, held, in 4 bytes each, in a slice of their own; nothing that was there is written. No condition but that lengths are ints.
-/
namespace Go.Proofs.YtlcbmobdokicaaaGreat
open Go.RowKit
set_option maxRecDepth 100000
set_option linter.unusedVariables false

theorem one_own (w : World) (t : Int) (e : TypeId) : (w.alloc (.cells #[.int .u8 t] e)).ownsRow w.heap.size e 1 (.slice (some ⟨w.heap.size, 0, none⟩) 1 1) 1 ([t].map (Value.int .u8)) :=
  ⟨rfl, .inr ⟨w.heap.size, 1, _, rfl, Nat.le_refl _, heap_alloc_new _ _, Nat.le_refl _, by unfold maxLen; omega, rfl, rfl⟩⟩

theorem OwnB.tag_ (w : World) (t : Int) : OwnB w (w.alloc (.cells #[.int .u8 t] 5)) (.slice (some ⟨w.heap.size, 0, none⟩) 1 1) (tagL t []) := ⟨one_own w t 5, (Below.refl _ _).alloc (Nat.le_refl _) _⟩

set_option maxHeartbeats 3200000 in
theorem kKey_any (t : Int) (A : Option Addr) (n c B : Nat) (l : List Int) (w : World) (ht : 0 ≤ t ∧ t < 256) (hr : RI w B A n l) (hB : B ≤ w.heap.size) (hc : n ≤ c) (hm : n ≤ maxLen) :
    Calls Tryz.prog 92 #[.int .u8 t, .slice A n c] w fun e w' => ∃ v, e = .returned v ∧ OwnB w w' v (keyL t l) := by
  unfold maxLen at hm
  have HL := Lib.hid hr.len
  unfold keyL
  obtain ⟨m, HM, HT⟩ : ∃ m : List Int, Hid (∀ i, i < l.length → tagL t (m.take (i + 1)) = tagL t (m.take i) ++ putB (held4 (l[i]?.getD 0)) 4) ∧ Hid (∀ i, (l.take i).map held4 = m.take i) := ⟨l.map held4, Lib.hid (fun i hi => by rw [← List.map_take, ← List.map_take]; exact tagL_step t l i hi), Lib.hid (fun i => List.map_take)⟩
  by_cases h7 : 7 < n
  · rw [HT.out 7]
    have h7c : 7 ≤ c := by omega
    have hmin : min (n : Int) 7 = 7 := by omega
    have hmax : max (7 : Int) 0 = 7 := by omega
    go_enter Tryz.func92, Tryz.ntmps92
    go_wp2
    go_loopw [5, 16] (fun v i wr => ∃ k : Nat, k ≤ 7 ∧ i = .int .i64 k ∧ OwnB w wr v (tagL t (m.take k))) (fun _ i _ => 7 - (intOf i).toNat)
    case atStart => exact ⟨0, Nat.zero_le _, rfl, OwnB.tag_ w t⟩
    case round =>
      obtain ⟨k, hk, rfl, ho⟩ := hrel
      by_cases hlt : k < 7
      · obtain ⟨b, off, rfl, hb, hcell⟩ := hr.2.2 (by omega)
        have hck := (ho.2.cell (p := ⟨b, off + k, none⟩) (Nat.lt_of_lt_of_le hb hB)).trans (hcell k (by omega))
        clear hcell
        obtain ⟨hx0, hx1⟩ := hr.int k
        have hpl : (tagL t (m.take k)).length ≤ 29 := by rw [tagL_length, List.length_take]; omega
        have hst := Lib.hid (HM.out k (by have := HL.out; omega))
        obtain ⟨A', c', rfl, hc', hrd⟩ := ho.read (tagL_bytes ht _)
        generalize l[k]?.getD 0 = x at hck hx0 hx1 hst
        have HO := Lib.hid ho
        have HX := Lib.hid (show 0 ≤ min (max x 0) (4294967295 : Int) ∧ min (max x 0) (4294967295 : Int) < 4294967296 by omega)
        have HH := Lib.hid (show held4 x = min (max x 0) (4294967295 : Int) from rfl)
        have HP := Lib.hid (Put_own _ _ c' wr.heap.size _ (min (max x 0) (4294967295 : Int)) 4 wr hrd (Nat.le_refl _) hc' (by omega) (by omega) (by omega))
        clear ho hrd
        go_wp2_with fail
        refine HP.out.mono ?_
        rintro e w2 ⟨v2, rfl, hown2, hb2⟩
        rw [putR4 _ _ HX.out, ← HH.out, ← hst.out] at hown2
        have HN := Lib.hid (OwnB.of_le (w0 := w) ⟨hown2, hb2⟩ HO.out.2)
        clear hown2 hb2
        go_wp2
        go_roundw
        case rel => exact ⟨k + 1, by omega, by go_num, HN.out⟩
        case measure => simp [intOf]; omega
      · obtain rfl : k = 7 := by omega
        go_wp2
        go_ret
        exact ⟨_, rfl, ho⟩
  · have hmin : min (n : Int) 7 = n := by omega
    have hmax : max (n : Int) 0 = n := by omega
    rw [show l.take 7 = l.take n by rw [List.take_of_length_le (by have := HL.out; omega), List.take_of_length_le (by have := HL.out; omega)], HT.out n]
    go_enter Tryz.func92, Tryz.ntmps92
    go_wp2
    go_loopw [5, 16] (fun v i wr => ∃ k : Nat, k ≤ n ∧ i = .int .i64 k ∧ OwnB w wr v (tagL t (m.take k))) (fun _ i _ => n - (intOf i).toNat)
    case atStart => exact ⟨0, Nat.zero_le _, rfl, OwnB.tag_ w t⟩
    case round =>
      obtain ⟨k, hk, rfl, ho⟩ := hrel
      by_cases hlt : k < n
      · obtain ⟨b, off, rfl, hb, hcell⟩ := hr.2.2 (by omega)
        have hck := (ho.2.cell (p := ⟨b, off + k, none⟩) (Nat.lt_of_lt_of_le hb hB)).trans (hcell k (by omega))
        clear hcell
        obtain ⟨hx0, hx1⟩ := hr.int k
        have hpl : (tagL t (m.take k)).length ≤ 29 := by rw [tagL_length, List.length_take]; omega
        have hst := Lib.hid (HM.out k (by have := HL.out; omega))
        obtain ⟨A', c', rfl, hc', hrd⟩ := ho.read (tagL_bytes ht _)
        generalize l[k]?.getD 0 = x at hck hx0 hx1 hst
        have HO := Lib.hid ho
        have HX := Lib.hid (show 0 ≤ min (max x 0) (4294967295 : Int) ∧ min (max x 0) (4294967295 : Int) < 4294967296 by omega)
        have HH := Lib.hid (show held4 x = min (max x 0) (4294967295 : Int) from rfl)
        have HP := Lib.hid (Put_own _ _ c' wr.heap.size _ (min (max x 0) (4294967295 : Int)) 4 wr hrd (Nat.le_refl _) hc' (by omega) (by omega) (by omega))
        clear ho hrd
        go_wp2_with fail
        refine HP.out.mono ?_
        rintro e w2 ⟨v2, rfl, hown2, hb2⟩
        rw [putR4 _ _ HX.out, ← HH.out, ← hst.out] at hown2
        have HN := Lib.hid (OwnB.of_le (w0 := w) ⟨hown2, hb2⟩ HO.out.2)
        clear hown2 hb2
        go_wp2
        go_roundw
        case rel => exact ⟨k + 1, by omega, by go_num, HN.out⟩
        case measure => simp [intOf]; omega
      · obtain rfl : k = n := by omega
        go_wp2
        go_ret
        exact ⟨_, rfl, ho⟩

set_option maxHeartbeats 3200000 in
theorem rKey_any (t : Int) (A : Option Addr) (n c B : Nat) (l : List Int) (w : World) (ht : 0 ≤ t ∧ t < 256) (hr : RI w B A n l) (hB : B ≤ w.heap.size) (hc : n ≤ c) (hm : n ≤ maxLen) :
    Calls Tryz.prog 99 #[.int .u8 t, .slice A n c] w fun e w' => ∃ v, e = .returned v ∧ OwnB w w' v (keyL t l) := by
  unfold maxLen at hm
  have HL := Lib.hid hr.len
  unfold keyL
  obtain ⟨m, HM, HT⟩ : ∃ m : List Int, Hid (∀ i, i < l.length → tagL t (m.take (i + 1)) = tagL t (m.take i) ++ putB (held4 (l[i]?.getD 0)) 4) ∧ Hid (∀ i, (l.take i).map held4 = m.take i) := ⟨l.map held4, Lib.hid (fun i hi => by rw [← List.map_take, ← List.map_take]; exact tagL_step t l i hi), Lib.hid (fun i => List.map_take)⟩
  by_cases h7 : 7 < n
  · rw [HT.out 7]
    have h7c : 7 ≤ c := by omega
    have hmin : min (n : Int) 7 = 7 := by omega
    have hmax : max (7 : Int) 0 = 7 := by omega
    go_enter Tryz.func99, Tryz.ntmps99
    go_wp2
    go_loopw [5, 6] (fun v i wr => ∃ k : Nat, k ≤ 7 ∧ i = .int .i64 k ∧ OwnB w wr v (tagL t (m.take k))) (fun _ i _ => 7 - (intOf i).toNat)
    case atStart => exact ⟨0, Nat.zero_le _, rfl, OwnB.tag_ w t⟩
    case round =>
      obtain ⟨k, hk, rfl, ho⟩ := hrel
      by_cases hlt : k < 7
      · obtain ⟨b, off, rfl, hb, hcell⟩ := hr.2.2 (by omega)
        have hck := (ho.2.cell (p := ⟨b, off + k, none⟩) (Nat.lt_of_lt_of_le hb hB)).trans (hcell k (by omega))
        clear hcell
        obtain ⟨hx0, hx1⟩ := hr.int k
        have hpl : (tagL t (m.take k)).length ≤ 29 := by rw [tagL_length, List.length_take]; omega
        have hst := Lib.hid (HM.out k (by have := HL.out; omega))
        obtain ⟨A', c', rfl, hc', hrd⟩ := ho.read (tagL_bytes ht _)
        generalize l[k]?.getD 0 = x at hck hx0 hx1 hst
        have HO := Lib.hid ho
        have HX := Lib.hid (show 0 ≤ min (max x 0) (4294967295 : Int) ∧ min (max x 0) (4294967295 : Int) < 4294967296 by omega)
        have HH := Lib.hid (show held4 x = min (max x 0) (4294967295 : Int) from rfl)
        have HP := Lib.hid (refPut_own _ _ c' wr.heap.size _ (min (max x 0) (4294967295 : Int)) 4 wr hrd (Nat.le_refl _) (by omega) (by omega) (by omega))
        clear ho hrd
        go_wp2_with fail
        refine HP.out.mono ?_
        rintro e w2 ⟨v2, rfl, hown2, hb2⟩
        rw [putR4 _ _ HX.out, ← HH.out, ← hst.out] at hown2
        have HN := Lib.hid (OwnB.of_le (w0 := w) ⟨hown2, hb2⟩ HO.out.2)
        clear hown2 hb2
        go_wp2
        go_roundw
        case rel => exact ⟨k + 1, by omega, by go_num, HN.out⟩
        case measure => simp [intOf]; omega
      · obtain rfl : k = 7 := by omega
        go_wp2
        go_ret
        exact ⟨_, rfl, ho⟩
  · have hmin : min (n : Int) 7 = n := by omega
    have hmax : max (n : Int) 0 = n := by omega
    rw [show l.take 7 = l.take n by rw [List.take_of_length_le (by have := HL.out; omega), List.take_of_length_le (by have := HL.out; omega)], HT.out n]
    go_enter Tryz.func99, Tryz.ntmps99
    go_wp2
    go_loopw [5, 6] (fun v i wr => ∃ k : Nat, k ≤ n ∧ i = .int .i64 k ∧ OwnB w wr v (tagL t (m.take k))) (fun _ i _ => n - (intOf i).toNat)
    case atStart => exact ⟨0, Nat.zero_le _, rfl, OwnB.tag_ w t⟩
    case round =>
      obtain ⟨k, hk, rfl, ho⟩ := hrel
      by_cases hlt : k < n
      · obtain ⟨b, off, rfl, hb, hcell⟩ := hr.2.2 (by omega)
        have hck := (ho.2.cell (p := ⟨b, off + k, none⟩) (Nat.lt_of_lt_of_le hb hB)).trans (hcell k (by omega))
        clear hcell
        obtain ⟨hx0, hx1⟩ := hr.int k
        have hpl : (tagL t (m.take k)).length ≤ 29 := by rw [tagL_length, List.length_take]; omega
        have hst := Lib.hid (HM.out k (by have := HL.out; omega))
        obtain ⟨A', c', rfl, hc', hrd⟩ := ho.read (tagL_bytes ht _)
        generalize l[k]?.getD 0 = x at hck hx0 hx1 hst
        have HO := Lib.hid ho
        have HX := Lib.hid (show 0 ≤ min (max x 0) (4294967295 : Int) ∧ min (max x 0) (4294967295 : Int) < 4294967296 by omega)
        have HH := Lib.hid (show held4 x = min (max x 0) (4294967295 : Int) from rfl)
        have HP := Lib.hid (refPut_own _ _ c' wr.heap.size _ (min (max x 0) (4294967295 : Int)) 4 wr hrd (Nat.le_refl _) (by omega) (by omega) (by omega))
        clear ho hrd
        go_wp2_with fail
        refine HP.out.mono ?_
        rintro e w2 ⟨v2, rfl, hown2, hb2⟩
        rw [putR4 _ _ HX.out, ← HH.out, ← hst.out] at hown2
        have HN := Lib.hid (OwnB.of_le (w0 := w) ⟨hown2, hb2⟩ HO.out.2)
        clear hown2 hb2
        go_wp2
        go_roundw
        case rel => exact ⟨k + 1, by omega, by go_num, HN.out⟩
        case measure => simp [intOf]; omega
      · obtain rfl : k = n := by omega
        go_wp2
        go_ret
        exact ⟨_, rfl, ho⟩

end Go.Proofs.YtlcbmobdokicaaaGreat

/-
  Contracts of keys.Split and of the plain Split: the tag and the numbers whose key it is, or nothing; nothing that was there is written. No condition but that lengths are ints.
-/
namespace Go.Proofs.YtlcbmobdokicaaaGreat
open Go.RowKit
set_option maxRecDepth 100000
set_option linter.unusedVariables false

/-- What Split answers, as a call answers it. -/
def GotK (w w' : World) (e : Ending) (r : List Int × Int × Bool) : Prop := ∃ A k c, e = .returned (.tuple #[.int .u8 r.2.1, .slice A k c, .bool r.2.2]) ∧ k ≤ c ∧ k ≤ 1000 ∧ RI w' w'.heap.size A k r.1 ∧ Below w.heap.size w w'
theorem GotK.none_ (w w' : World) (h : Below w.heap.size w w') : GotK w w' (.returned (.tuple #[.int .u8 0, .slice none 0 0, .bool false])) ([], 0, false) := ⟨none, 0, 0, rfl, Nat.le_refl _, Nat.zero_le _, RI.nil_, h⟩
def splitK (b : List Int) : List Int × Int × Bool := ((splitR b).2.1, (splitR b).1, (splitR b).2.2)
theorem splitK_none {b : List Int} {n : Nat} (hb : b.length = n) (h : ¬ (1 ≤ n ∧ n ≤ 29 ∧ n % 4 = 1)) : splitK b = ([], 0, false) := by
  subst hb
  unfold splitK splitR
  rw [if_neg h]
theorem splitK_yes {b : List Int} {n m : Nat} (hb : b.length = n) (hn : n = 1 + 4 * m) (hm : m ≤ 7) : splitK b = (unpackN 4 b 1 m, b[0]?.getD 0, true) := by
  subst hb
  unfold splitK splitR
  rw [if_pos (by omega), show b.length / 4 = m by omega]

set_option maxHeartbeats 1600000 in
theorem kSplit_any (A : Option Addr) (n c B : Nat) (b : List Int) (w : World) (hr : RB w B A n b) (hB : B ≤ w.heap.size) (hc : n ≤ c) (hm : n ≤ maxLen) :
    Calls Tryz.prog 142 #[.slice A n c] w fun e w' => GotK w w' e (splitK b) := by
  unfold maxLen at hm
  have HL := Lib.hid hr.len
  by_cases h0 : n = 0
  · rw [splitK_none HL.out (by omega)]
    subst h0
    go_enter Tryz.func142, Tryz.ntmps142
    go_wp2
    go_ret3
    exact GotK.none_ _ _ (Below.refl _ _)
  by_cases h29 : 29 < n
  · rw [splitK_none HL.out (by omega)]
    have k1 : (29 : Int) < n := by omega
    have k2 : ¬ (n : Int) = 0 := by omega
    have k3 : ¬ (n : Int) < 1 := by omega
    go_enter Tryz.func142, Tryz.ntmps142
    go_wp2
    go_ret3
    exact GotK.none_ _ _ (Below.refl _ _)
  have k1 : ¬ (29 : Int) < n := by omega
  have k2 : ¬ (n : Int) = 0 := by omega
  have k3 : ¬ (n : Int) < 1 := by omega
  have k4 : (1 : Int) < n ∨ (n : Int) = 1 := by omega
  clear k4
  by_cases h4 : n % 4 = 1
  · obtain ⟨m, hnm⟩ : ∃ m, n = 1 + 4 * m := ⟨n / 4, by omega⟩
    rw [splitK_yes HL.out hnm (by omega)]
    have hnm1 : n ≤ 1 + 4 * m := by omega
    have hnm2 : 1 + 4 * m ≤ n := by omega
    clear hnm
    obtain ⟨B0, off, rfl, hbb, hcell⟩ := hr.at_ (by omega)
    have hc0 := hcell 0 (by omega)
    rw [Nat.add_zero] at hc0
    generalize b[0]?.getD 0 = b0 at hc0 ⊢
    clear hcell
    have k5 : ((n : Int) % 4 == 1) = true := by simp; omega
    have k6 : ((n : Int) % 4 != 1) = false := by simp; omega
    clear h4
    go_enter Tryz.func142, Tryz.ntmps142
    go_wp2_with fail
    go_loopw [5, 6] (fun v i wr => ∃ k : Nat, 1 + 4 * k ≤ n ∧ i = .int .i64 ((1 + 4 * k : Nat) : Int) ∧ Hid (wr.ownsRow w.heap.size 3 1 v k ((unpackN 4 b 1 k).map (Value.int .i64))) ∧ Below w.heap.size w wr) (fun _ i _ => n - (intOf i).toNat)
    case atStart => exact ⟨0, by omega, rfl, Lib.hid (World.ownsRow_nil _ _ _ _), Below.refl _ _⟩
    case round =>
      obtain ⟨k, hk, rfl, hown, hbw⟩ := hrel
      have hk29 : 1 + 4 * k ≤ 29 := by omega
      by_cases hlt : 1 + 4 * k < n
      · have HG := Lib.hid (Get_any _ n c B b ((1 + 4 * k : Nat) : Int) 4 wr (hr.below (hbw.mono hB)) hc (by unfold maxLen; omega))
        rw [getR_at4 HL.out (by omega)] at HG
        have hst := Lib.hid (unpackN_step 4 b 1 k)
        generalize numOf ((b.drop (1 + 4 * k)).take 4) = x at HG hst
        have HAT := Lib.hid (show ((1 + 4 * k : Nat) : Int) + 4 = ((1 + 4 * (k + 1) : Nat) : Int) by omega)
        obtain ⟨z, hz⟩ : ∃ z : Nat, z = 1 + 4 * k := ⟨_, rfl⟩
        rw [← hz] at HG HAT
        rw [← hz]
        have hzn : z < n := by omega
        have hz29 : z ≤ 29 := by omega
        clear hz
        go_wp2_with fail
        refine HG.out.mono ?_
        rintro e w2 ⟨rfl, rfl⟩
        go_wp2_with (refine wpList_append_int rfl _ _ rfl w.heap.size _ k _ rfl wr.heap.size x _ rfl (hown.out.alloc _) (heap_alloc_new _ _) (by omega) (by have := hbw.size; simp; omega) ?_; intro v2 w2 hown2 hb2; rw [← hst.out] at hown2; have HO := Lib.hid hown2; have hbn := (hbw.alloc hbw.size _).trans hb2; clear hown2 hb2)
        go_roundw
        case rel => exact ⟨k + 1, by omega, by rw [← HAT.out], HO, hbn⟩
        case measure => simp [intOf]; omega
      · have hzn : ¬ (1 + 4 * k : Nat) < n := hlt
        have hkm : k = m := by omega
        obtain ⟨A', c', rfl, hc'⟩ := int_own_shape hown.out
        have HR := Lib.hid (RI.of_own hown.out (unpackN_ints 4 b 1 k hr.bytes)).1
        have hck := (hbw.cell (p := ⟨B0, off, none⟩) (Nat.lt_of_lt_of_le hbb hB)).trans hc0
        obtain ⟨z, hz⟩ : ∃ z : Nat, z = 1 + 4 * k := ⟨_, rfl⟩
        rw [← hz]
        have hzn' : ¬ z < n := by omega
        clear hown hz
        go_wp2
        go_ret3
        rw [← hkm]
        exact ⟨_, _, _, rfl, hc', by omega, HR.out, hbw⟩
  · rw [splitK_none HL.out (by omega)]
    have k5 : ((n : Int) % 4 == 1) = false := by simp; omega
    have k6 : ((n : Int) % 4 != 1) = true := by simp; omega
    go_enter Tryz.func142, Tryz.ntmps142
    go_wp2_with fail
    go_loopw [5, 6] (fun v i wr => ∃ k : Nat, 1 + 4 * k ≤ n ∧ i = .int .i64 ((1 + 4 * k : Nat) : Int) ∧ Hid (wr.ownsRow w.heap.size 3 1 v k ((unpackN 4 b 1 k).map (Value.int .i64))) ∧ Below w.heap.size w wr) (fun _ i _ => n - (intOf i).toNat)
    case atStart => exact ⟨0, by omega, rfl, Lib.hid (World.ownsRow_nil _ _ _ _), Below.refl _ _⟩
    case round =>
      obtain ⟨k, hk, rfl, hown, hbw⟩ := hrel
      have hk29 : 1 + 4 * k ≤ 29 := by omega
      by_cases hfit : 1 + 4 * k + 4 ≤ n
      · have HG := Lib.hid (Get_any _ n c B b ((1 + 4 * k : Nat) : Int) 4 wr (hr.below (hbw.mono hB)) hc (by unfold maxLen; omega))
        rw [getR_at4 HL.out (by omega)] at HG
        have hst := Lib.hid (unpackN_step 4 b 1 k)
        generalize numOf ((b.drop (1 + 4 * k)).take 4) = x at HG hst
        have HAT := Lib.hid (show ((1 + 4 * k : Nat) : Int) + 4 = ((1 + 4 * (k + 1) : Nat) : Int) by omega)
        obtain ⟨z, hz⟩ : ∃ z : Nat, z = 1 + 4 * k := ⟨_, rfl⟩
        rw [← hz] at HG HAT
        rw [← hz]
        have hzn : z < n := by omega
        have hz29 : z ≤ 29 := by omega
        clear hz
        go_wp2_with fail
        refine HG.out.mono ?_
        rintro e w2 ⟨rfl, rfl⟩
        go_wp2_with (refine wpList_append_int rfl _ _ rfl w.heap.size _ k _ rfl wr.heap.size x _ rfl (hown.out.alloc _) (heap_alloc_new _ _) (by omega) (by have := hbw.size; simp; omega) ?_; intro v2 w2 hown2 hb2; rw [← hst.out] at hown2; have HO := Lib.hid hown2; have hbn := (hbw.alloc hbw.size _).trans hb2; clear hown2 hb2)
        go_roundw
        case rel => exact ⟨k + 1, by omega, by rw [← HAT.out], HO, hbn⟩
        case measure => simp [intOf]; omega
      · have HG := Lib.hid (Get_any _ n c B b ((1 + 4 * k : Nat) : Int) 4 wr (hr.below (hbw.mono hB)) hc (by unfold maxLen; omega))
        rw [getR_not4 HL.out (by omega)] at HG
        obtain ⟨z, hz⟩ : ∃ z : Nat, z = 1 + 4 * k := ⟨_, rfl⟩
        rw [← hz] at HG
        rw [← hz]
        have hzn : z < n := by omega
        clear hz
        go_wp2_with fail
        refine HG.out.mono ?_
        rintro e w2 ⟨rfl, rfl⟩
        have HB := Lib.hid hbw
        go_wp2
        go_ret3
        exact GotK.none_ _ _ HB.out
set_option maxHeartbeats 1600000 in
theorem rSplit_any (A : Option Addr) (n c B : Nat) (b : List Int) (w : World) (hr : RB w B A n b) (hB : B ≤ w.heap.size) (hc : n ≤ c) (hm : n ≤ maxLen) :
    Calls Tryz.prog 188 #[.slice A n c] w fun e w' => GotK w w' e (splitK b) := by
  unfold maxLen at hm
  have HL := Lib.hid hr.len
  by_cases h0 : n = 0
  · rw [splitK_none HL.out (by omega)]
    subst h0
    go_enter Tryz.func188, Tryz.ntmps188
    go_wp2
    go_ret3
    exact GotK.none_ _ _ (Below.refl _ _)
  by_cases h29 : 29 < n
  · rw [splitK_none HL.out (by omega)]
    have k1 : (29 : Int) < n := by omega
    have k2 : ¬ (n : Int) = 0 := by omega
    have k3 : ¬ (n : Int) < 1 := by omega
    go_enter Tryz.func188, Tryz.ntmps188
    go_wp2
    go_ret3
    exact GotK.none_ _ _ (Below.refl _ _)
  have k1 : ¬ (29 : Int) < n := by omega
  have k2 : ¬ (n : Int) = 0 := by omega
  have k3 : ¬ (n : Int) < 1 := by omega
  have k4 : (1 : Int) < n ∨ (n : Int) = 1 := by omega
  clear k4
  by_cases h4 : n % 4 = 1
  · obtain ⟨m, hnm⟩ : ∃ m, n = 1 + 4 * m := ⟨n / 4, by omega⟩
    rw [splitK_yes HL.out hnm (by omega)]
    have hnm1 : n ≤ 1 + 4 * m := by omega
    have hnm2 : 1 + 4 * m ≤ n := by omega
    clear hnm
    obtain ⟨B0, off, rfl, hbb, hcell⟩ := hr.at_ (by omega)
    have hc0 := hcell 0 (by omega)
    rw [Nat.add_zero] at hc0
    generalize b[0]?.getD 0 = b0 at hc0 ⊢
    clear hcell
    have k5 : ((n : Int) % 4 == 1) = true := by simp; omega
    have k6 : ((n : Int) % 4 != 1) = false := by simp; omega
    clear h4
    go_enter Tryz.func188, Tryz.ntmps188
    go_wp2_with fail
    go_loopw [5, 6] (fun v i wr => ∃ k : Nat, 1 + 4 * k ≤ n ∧ i = .int .i64 ((1 + 4 * k : Nat) : Int) ∧ Hid (wr.ownsRow w.heap.size 3 1 v k ((unpackN 4 b 1 k).map (Value.int .i64))) ∧ Below w.heap.size w wr) (fun _ i _ => n - (intOf i).toNat)
    case atStart => exact ⟨0, by omega, rfl, Lib.hid (World.ownsRow_nil _ _ _ _), Below.refl _ _⟩
    case round =>
      obtain ⟨k, hk, rfl, hown, hbw⟩ := hrel
      have hk29 : 1 + 4 * k ≤ 29 := by omega
      by_cases hlt : 1 + 4 * k < n
      · have HG := Lib.hid (refGet_any _ n c B b ((1 + 4 * k : Nat) : Int) 4 wr (hr.below (hbw.mono hB)) hc (by unfold maxLen; omega))
        rw [getR_at4 HL.out (by omega)] at HG
        have hst := Lib.hid (unpackN_step 4 b 1 k)
        generalize numOf ((b.drop (1 + 4 * k)).take 4) = x at HG hst
        have HAT := Lib.hid (show ((1 + 4 * k : Nat) : Int) + 4 = ((1 + 4 * (k + 1) : Nat) : Int) by omega)
        obtain ⟨z, hz⟩ : ∃ z : Nat, z = 1 + 4 * k := ⟨_, rfl⟩
        rw [← hz] at HG HAT
        rw [← hz]
        have hzn : z < n := by omega
        have hz29 : z ≤ 29 := by omega
        clear hz
        go_wp2_with fail
        refine HG.out.mono ?_
        rintro e w2 ⟨rfl, rfl⟩
        go_wp2_with (refine wpList_append_int rfl _ _ rfl w.heap.size _ k _ rfl wr.heap.size x _ rfl (hown.out.alloc _) (heap_alloc_new _ _) (by omega) (by have := hbw.size; simp; omega) ?_; intro v2 w2 hown2 hb2; rw [← hst.out] at hown2; have HO := Lib.hid hown2; have hbn := (hbw.alloc hbw.size _).trans hb2; clear hown2 hb2)
        go_roundw
        case rel => exact ⟨k + 1, by omega, by rw [← HAT.out], HO, hbn⟩
        case measure => simp [intOf]; omega
      · have hzn : ¬ (1 + 4 * k : Nat) < n := hlt
        have hkm : k = m := by omega
        obtain ⟨A', c', rfl, hc'⟩ := int_own_shape hown.out
        have HR := Lib.hid (RI.of_own hown.out (unpackN_ints 4 b 1 k hr.bytes)).1
        have hck := (hbw.cell (p := ⟨B0, off, none⟩) (Nat.lt_of_lt_of_le hbb hB)).trans hc0
        obtain ⟨z, hz⟩ : ∃ z : Nat, z = 1 + 4 * k := ⟨_, rfl⟩
        rw [← hz]
        have hzn' : ¬ z < n := by omega
        clear hown hz
        go_wp2
        go_ret3
        rw [← hkm]
        exact ⟨_, _, _, rfl, hc', by omega, HR.out, hbw⟩
  · rw [splitK_none HL.out (by omega)]
    have k5 : ((n : Int) % 4 == 1) = false := by simp; omega
    have k6 : ((n : Int) % 4 != 1) = true := by simp; omega
    go_enter Tryz.func188, Tryz.ntmps188
    go_wp2
    go_ret3
    exact GotK.none_ _ _ (Below.refl _ _)
end Go.Proofs.YtlcbmobdokicaaaGreat
