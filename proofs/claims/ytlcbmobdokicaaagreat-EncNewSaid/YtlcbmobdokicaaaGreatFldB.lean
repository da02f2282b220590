/-
  The texts FldP, FldA, FldB joined. Conditions: those that each part says at its head.
-/
import Derived.Test.YtlcbmobdokicaaaGreatRefPut
import Derived.Test.YtlcbmobdokicaaaGreatIntApp
import Derived.Laws.CopyOwn

/-
  Numbers in so many bytes each, one behind the other, and such numbers of bytes, as plain lists: the one undoes the other. No program; no condition but that the numbers are ints.
-/
namespace Go.Proofs.YtlcbmobdokicaaaGreat
open Go.RowKit
set_option maxRecDepth 100000
set_option linter.unusedVariables false

/-- Numbers in k bytes each, one behind the other. -/
def packN (k : Nat) (l : List Int) : List Int := l.flatMap (fun x => putB x k)
/-- The numbers of m times k bytes, from a on. -/
def unpackN (k : Nat) (b : List Int) (a m : Nat) : List Int := (List.range m).map (fun i => numOf ((b.drop (a + k * i)).take k))

theorem packN_nil (k : Nat) : packN k [] = [] := rfl
theorem packN_append (k : Nat) (l m : List Int) : packN k (l ++ m) = packN k l ++ packN k m := by simp [packN]
theorem packN_one (k : Nat) (x : Int) : packN k [x] = putB x k := by simp [packN]
theorem packN_length (k : Nat) (l : List Int) : (packN k l).length = k * l.length := by
  induction l with
  | nil => simp [packN]
  | cons x r ih =>
    rw [show x :: r = [x] ++ r from rfl, packN_append, List.length_append, ih, packN_one, putB_length, List.length_append, Nat.mul_add]
    simp
theorem packN_bytes (k : Nat) (l : List Int) : AllBytes (packN k l) := fun x hx => by
  obtain ⟨y, _, hy⟩ := List.mem_flatMap.1 hx
  exact putB_bytes _ _ x hy
theorem packN_step (k : Nat) (l : List Int) (i : Nat) (h : i < l.length) : packN k (l.take (i + 1)) = packN k (l.take i) ++ putB (l[i]?.getD 0) k := by
  rw [List.take_succ_eq_append_getElem h, packN_append, packN_one]
  simp [List.getElem?_eq_getElem h]
theorem unpackN_step (k : Nat) (b : List Int) (a m : Nat) : unpackN k b a (m + 1) = unpackN k b a m ++ [numOf ((b.drop (a + k * m)).take k)] := by
  simp [unpackN, List.range_succ]
theorem unpackN_length (k : Nat) (b : List Int) (a m : Nat) : (unpackN k b a m).length = m := by simp [unpackN]
theorem numOf_bound (l : List Int) (h : AllBytes l) : -9223372036854775808 ≤ numOf l ∧ numOf l ≤ 9223372036854775807 := by
  rw [numOf_eq l h]
  unfold wrap64
  omega
theorem unpackN_ints (k : Nat) (b : List Int) (a m : Nat) (h : AllBytes b) : ∀ x ∈ unpackN k b a m, -9223372036854775808 ≤ x ∧ x ≤ 9223372036854775807 := fun x hx => by
  obtain ⟨i, _, rfl⟩ := List.mem_map.1 hx
  exact numOf_bound _ ((h.drop _).take _)
theorem unpackN_cons (k : Nat) (p b : List Int) (a m : Nat) (h : p.length = a) : unpackN k (p ++ b) a m = unpackN k b 0 m := by
  subst h
  unfold unpackN
  apply List.map_congr_left
  intro i _
  rw [List.drop_append, List.drop_of_length_le (by omega), List.nil_append]
  congr 3
  omega
/-- What stands in k bytes each is what these bytes are. -/
theorem unpack_pack (k : Nat) (l : List Int) (h : ∀ x ∈ l, numOf (putB x k) = x) : unpackN k (packN k l) 0 l.length = l := by
  apply List.ext_getElem (unpackN_length _ _ _ _)
  intro i h1 h2
  have hi : i < l.length := h2
  have e0 : (unpackN k (packN k l) 0 l.length)[i] = numOf (((packN k l).drop (0 + k * i)).take k) := by simp [unpackN]
  rw [e0]
  have e : packN k l = packN k (l.take i) ++ (putB l[i] k ++ packN k (l.drop (i + 1))) := by
    rw [← packN_one, ← packN_append, ← packN_append]
    congr 1
    rw [List.singleton_append, ← List.drop_eq_getElem_cons hi, List.take_append_drop]
  rw [e, Nat.zero_add, List.drop_append, List.drop_of_length_le (by rw [packN_length, List.length_take]; rw [Nat.min_eq_left (by omega)]; exact Nat.le_refl _), List.nil_append, packN_length, List.length_take, Nat.min_eq_left (by omega), Nat.sub_self, List.drop_zero, List.take_append_of_le_length (by rw [putB_length]; exact Nat.le_refl _), List.take_of_length_le (by rw [putB_length]; exact Nat.le_refl _)]
  exact h _ (List.getElem_mem hi)
theorem num8 {x : Int} (h : -9223372036854775808 ≤ x ∧ x ≤ 9223372036854775807) : numOf (putB x 8) = x := wrap_putB (s := 8) (by simp [rightB]) h.1 h.2
theorem num4 {x : Int} (h : 0 ≤ x ∧ x < 4294967296) : numOf (putB x 4) = x := wrap_putB (s := 4) (by simp [rightB, h]) (by omega) (by omega)
/-- A number held from 0 to 2^32 - 1. -/
def held4 (x : Int) : Int := min (max x 0) 4294967295
theorem held4_in (x : Int) : 0 ≤ held4 x ∧ held4 x < 4294967296 := by unfold held4; omega
theorem held4_same {x : Int} (h : 0 ≤ x ∧ x < 4294967296) : held4 x = x := by unfold held4; omega
theorem putR8 (l : List Int) (x : Int) : putR l x 8 = l ++ putB x 8 := by unfold putR; rw [if_pos (by simp [rightB])]; rfl
theorem putR4 (l : List Int) (x : Int) (h : 0 ≤ x ∧ x < 4294967296) : putR l x 4 = l ++ putB x 4 := by unfold putR; rw [if_pos (by simp [rightB, h])]; rfl

end Go.Proofs.YtlcbmobdokicaaaGreat

/-
  Contracts of field.Pack and of the plain Pack: of any ints the first 15 in 8 bytes each, in a slice of their own; nothing that was there is written. No condition but that lengths are ints.
-/
namespace Go.Proofs.YtlcbmobdokicaaaGreat
open Go.RowKit
set_option maxRecDepth 100000
set_option linter.unusedVariables false

/-- A slice of bytes of the call's own that reads as l. -/
def OwnB (w0 w' : World) (v : Value) (l : List Int) : Prop := w'.ownsRow w0.heap.size 5 1 v l.length (l.map (Value.int .u8)) ∧ Below w0.heap.size w0 w'

theorem OwnB.nil_ (w : World) : OwnB w w (.slice none 0 0) [] := ⟨World.ownsRow_nil _ _ _ _, Below.refl _ _⟩

theorem OwnB.read {w0 w' : World} {v : Value} {l : List Int} (h : OwnB w0 w' v l) (hl : AllBytes l) : ∃ A c, v = .slice A l.length c ∧ l.length ≤ c ∧ RB w' w'.heap.size A l.length l := read_own h.1 hl
theorem OwnB.of_le {w0 w1 w2 : World} {v : Value} {l : List Int} (h : OwnB w1 w2 v l) (hb : Below w0.heap.size w0 w1) : OwnB w0 w2 v l := ⟨own_base_le h.1 hb.size, hb.trans (h.2.mono hb.size)⟩

theorem RI.int {w : World} {B n : Nat} {A : Option Addr} {l : List Int} (h : RI w B A n l) (k : Nat) : -9223372036854775808 ≤ l[k]?.getD 0 ∧ l[k]?.getD 0 ≤ 9223372036854775807 := by
  rcases Nat.lt_or_ge k l.length with hk | hk
  · have e : l[k]?.getD 0 = l[k] := by simp [List.getElem?_eq_getElem hk]
    rw [e]; exact h.2.1 _ (List.getElem_mem hk)
  · have e : l[k]?.getD 0 = 0 := by simp [List.getElem?_eq_none hk]
    rw [e]; omega

set_option maxHeartbeats 1600000 in
theorem fPack_any (A : Option Addr) (n c B : Nat) (l : List Int) (w : World) (hr : RI w B A n l) (hB : B ≤ w.heap.size) (hc : n ≤ c) (hm : n ≤ maxLen) :
    Calls Tryz.prog 106 #[.slice A n c] w fun e w' => ∃ v, e = .returned v ∧ OwnB w w' v (packN 8 (l.take 15)) := by
  unfold maxLen at hm
  have HL := Lib.hid hr.len
  by_cases h15 : 15 < n
  · have h15c : 15 ≤ c := by omega
    have h15i : (15 : Int) < n := by omega
    go_enter Tryz.func106, Tryz.ntmps106
    go_wp2
    go_loopw [3, 12] (fun v i wr => ∃ k : Nat, k ≤ 15 ∧ i = .int .i64 k ∧ OwnB w wr v (packN 8 (l.take k))) (fun _ i _ => 15 - (intOf i).toNat)
    case atStart => exact ⟨0, Nat.zero_le _, rfl, OwnB.nil_ _⟩
    case round =>
      obtain ⟨k, hk, rfl, ho⟩ := hrel
      by_cases hlt : k < 15
      · obtain ⟨b, off, rfl, hb, hcell⟩ := hr.2.2 (by omega)
        have hck := (ho.2.cell (p := ⟨b, off + k, none⟩) (Nat.lt_of_lt_of_le hb hB)).trans (hcell k (by omega))
        clear hcell
        obtain ⟨hx0, hx1⟩ := hr.int k
        obtain ⟨A', c', rfl, hc', hrd⟩ := ho.read (packN_bytes _ _)
        have hpl : (packN 8 (l.take k)).length ≤ 120 := by rw [packN_length, List.length_take]; omega
        have hst := Lib.hid (packN_step 8 l k (by have := HL.out; omega))
        have HO := Lib.hid ho
        have HP := Lib.hid (Put_own _ _ c' _ _ (l[k]?.getD 0) 8 wr hrd (Nat.le_refl _) hc' (by omega) hx0 hx1)
        clear ho hrd
        go_wp2_with fail
        refine HP.out.mono ?_
        rintro e w2 ⟨v2, rfl, hown2, hb2⟩
        rw [putR8, ← hst.out] at hown2
        have HN := Lib.hid (OwnB.of_le (w0 := w) ⟨hown2, hb2⟩ HO.out.2)
        clear hown2 hb2
        go_wp2
        go_roundw
        case rel => exact ⟨k + 1, by omega, by go_num, HN.out⟩
        case measure => simp [intOf]; omega
      · obtain rfl : k = 15 := by omega
        go_wp2
        go_ret
        exact ⟨_, rfl, ho⟩
  · have hle : (n : Int) ≤ 15 := by omega
    rw [show l.take 15 = l.take n by rw [List.take_of_length_le (by have := HL.out; omega), List.take_of_length_le (by have := HL.out; omega)]]
    go_enter Tryz.func106, Tryz.ntmps106
    go_wp2
    go_loopw [3, 12] (fun v i wr => ∃ k : Nat, k ≤ n ∧ i = .int .i64 k ∧ OwnB w wr v (packN 8 (l.take k))) (fun _ i _ => n - (intOf i).toNat)
    case atStart => exact ⟨0, Nat.zero_le _, rfl, OwnB.nil_ _⟩
    case round =>
      obtain ⟨k, hk, rfl, ho⟩ := hrel
      by_cases hlt : k < n
      · obtain ⟨b, off, rfl, hb, hcell⟩ := hr.2.2 (by omega)
        have hck := (ho.2.cell (p := ⟨b, off + k, none⟩) (Nat.lt_of_lt_of_le hb hB)).trans (hcell k (by omega))
        clear hcell
        obtain ⟨hx0, hx1⟩ := hr.int k
        obtain ⟨A', c', rfl, hc', hrd⟩ := ho.read (packN_bytes _ _)
        have hpl : (packN 8 (l.take k)).length ≤ 120 := by rw [packN_length, List.length_take]; omega
        have hst := Lib.hid (packN_step 8 l k (by have := HL.out; omega))
        have HO := Lib.hid ho
        have HP := Lib.hid (Put_own _ _ c' _ _ (l[k]?.getD 0) 8 wr hrd (Nat.le_refl _) hc' (by omega) hx0 hx1)
        clear ho hrd
        go_wp2_with fail
        refine HP.out.mono ?_
        rintro e w2 ⟨v2, rfl, hown2, hb2⟩
        rw [putR8, ← hst.out] at hown2
        have HN := Lib.hid (OwnB.of_le (w0 := w) ⟨hown2, hb2⟩ HO.out.2)
        clear hown2 hb2
        go_wp2
        go_roundw
        case rel => exact ⟨k + 1, by omega, by go_num, HN.out⟩
        case measure => simp [intOf]; omega
      · obtain rfl : k = n := by omega
        go_wp2
        go_ret
        exact ⟨_, rfl, ho⟩

set_option maxHeartbeats 1600000 in
theorem rPack_any (A : Option Addr) (n c B : Nat) (l : List Int) (w : World) (hr : RI w B A n l) (hB : B ≤ w.heap.size) (hc : n ≤ c) (hm : n ≤ maxLen) :
    Calls Tryz.prog 108 #[.slice A n c] w fun e w' => ∃ v, e = .returned v ∧ OwnB w w' v (packN 8 (l.take 15)) := by
  unfold maxLen at hm
  have HL := Lib.hid hr.len
  by_cases h15 : 15 < n
  · have h15c : 15 ≤ c := by omega
    have h15i : (15 : Int) < n := by omega
    go_enter Tryz.func108, Tryz.ntmps108
    go_wp2
    go_loopw [3, 4] (fun v i wr => ∃ k : Nat, k ≤ 15 ∧ i = .int .i64 k ∧ OwnB w wr v (packN 8 (l.take k))) (fun _ i _ => 15 - (intOf i).toNat)
    case atStart => exact ⟨0, Nat.zero_le _, rfl, OwnB.nil_ _⟩
    case round =>
      obtain ⟨k, hk, rfl, ho⟩ := hrel
      by_cases hlt : k < 15
      · obtain ⟨b, off, rfl, hb, hcell⟩ := hr.2.2 (by omega)
        have hck := (ho.2.cell (p := ⟨b, off + k, none⟩) (Nat.lt_of_lt_of_le hb hB)).trans (hcell k (by omega))
        clear hcell
        obtain ⟨hx0, hx1⟩ := hr.int k
        obtain ⟨A', c', rfl, hc', hrd⟩ := ho.read (packN_bytes _ _)
        have hpl : (packN 8 (l.take k)).length ≤ 120 := by rw [packN_length, List.length_take]; omega
        have hst := Lib.hid (packN_step 8 l k (by have := HL.out; omega))
        have HO := Lib.hid ho
        have HP := Lib.hid (refPut_own _ _ c' _ _ (l[k]?.getD 0) 8 wr hrd (Nat.le_refl _) (by omega) hx0 hx1)
        clear ho hrd
        go_wp2_with fail
        refine HP.out.mono ?_
        rintro e w2 ⟨v2, rfl, hown2, hb2⟩
        rw [putR8, ← hst.out] at hown2
        have HN := Lib.hid (OwnB.of_le (w0 := w) ⟨hown2, hb2⟩ HO.out.2)
        clear hown2 hb2
        go_wp2
        go_roundw
        case rel => exact ⟨k + 1, by omega, by go_num, HN.out⟩
        case measure => simp [intOf]; omega
      · obtain rfl : k = 15 := by omega
        go_wp2
        go_ret
        exact ⟨_, rfl, ho⟩
  · have hle : (n : Int) ≤ 15 := by omega
    rw [show l.take 15 = l.take n by rw [List.take_of_length_le (by have := HL.out; omega), List.take_of_length_le (by have := HL.out; omega)]]
    go_enter Tryz.func108, Tryz.ntmps108
    go_wp2
    go_loopw [3, 4] (fun v i wr => ∃ k : Nat, k ≤ n ∧ i = .int .i64 k ∧ OwnB w wr v (packN 8 (l.take k))) (fun _ i _ => n - (intOf i).toNat)
    case atStart => exact ⟨0, Nat.zero_le _, rfl, OwnB.nil_ _⟩
    case round =>
      obtain ⟨k, hk, rfl, ho⟩ := hrel
      by_cases hlt : k < n
      · obtain ⟨b, off, rfl, hb, hcell⟩ := hr.2.2 (by omega)
        have hck := (ho.2.cell (p := ⟨b, off + k, none⟩) (Nat.lt_of_lt_of_le hb hB)).trans (hcell k (by omega))
        clear hcell
        obtain ⟨hx0, hx1⟩ := hr.int k
        obtain ⟨A', c', rfl, hc', hrd⟩ := ho.read (packN_bytes _ _)
        have hpl : (packN 8 (l.take k)).length ≤ 120 := by rw [packN_length, List.length_take]; omega
        have hst := Lib.hid (packN_step 8 l k (by have := HL.out; omega))
        have HO := Lib.hid ho
        have HP := Lib.hid (refPut_own _ _ c' _ _ (l[k]?.getD 0) 8 wr hrd (Nat.le_refl _) (by omega) hx0 hx1)
        clear ho hrd
        go_wp2_with fail
        refine HP.out.mono ?_
        rintro e w2 ⟨v2, rfl, hown2, hb2⟩
        rw [putR8, ← hst.out] at hown2
        have HN := Lib.hid (OwnB.of_le (w0 := w) ⟨hown2, hb2⟩ HO.out.2)
        clear hown2 hb2
        go_wp2
        go_roundw
        case rel => exact ⟨k + 1, by omega, by go_num, HN.out⟩
        case measure => simp [intOf]; omega
      · obtain rfl : k = n := by omega
        go_wp2
        go_ret
        exact ⟨_, rfl, ho⟩

end Go.Proofs.YtlcbmobdokicaaaGreat

/-
  Contracts of field.Unpack and of the plain Unpack: the numbers, as many as were asked, or which refusal; nothing that was there is written. No condition but that lengths are ints.
-/
namespace Go.Proofs.YtlcbmobdokicaaaGreat
open Go.RowKit
set_option maxRecDepth 100000
set_option linter.unusedVariables false

/-- What Unpack answers: the numbers, and which refusal. -/
def unpackR (b : List Int) (m : Int) : List Int × Int := if 0 ≤ m ∧ m ≤ 15 then (if (b.length : Int) = 8 * m then (unpackN 8 b 0 m.toNat, 0) else ([], 4)) else ([], 1)

/-- A slice of ints with which refusal, as a call answers it. -/
def GotI (w w' : World) (e : Ending) (r : List Int × Int) : Prop := ∃ A k c, e = .returned (.tuple #[.slice A k c, .int .i64 r.2]) ∧ k ≤ c ∧ k ≤ 1000 ∧ RI w' w'.heap.size A k r.1 ∧ Below w.heap.size w w'
theorem GotI.none_ (w : World) (x : Int) : GotI w w (.returned (.tuple #[.slice none 0 0, .int .i64 x])) ([], x) := ⟨none, 0, 0, rfl, Nat.le_refl _, Nat.zero_le _, RI.nil_, Below.refl _ _⟩

/-- A block of m ints of which the first k are known. -/
def fillI (l : List Int) (m : Nat) (e : TypeId) : Obj := .cells ((l ++ List.replicate (m - l.length) 0).map (Value.int .i64)).toArray e (0, 0)
theorem fillI_start {w : World} {base e g n : Nat} (h : w.ownsRow base e 1 (.slice (some ⟨g, 0, none⟩) n n) n (madeCells (Value.int .i64 0).cells (n * 1)).toList) : w.heap[g]? = some (fillI [] n e) := by
  have := made_block h
  rw [show (Value.int .i64 0).cells = #[Value.int .i64 0] from rfl, toList_madeCells_one, Nat.mul_one] at this
  rw [this]
  simp [fillI]
theorem fillI_frozen {w : World} {g m k : Nat} {e : TypeId} {l : List Int} (h : w.heap[g]? = some (fillI l m e)) : w.frozen? ⟨g, k, none⟩ = false := by
  unfold fillI at h
  simp [World.frozen?, h]
theorem fillI_cell {w : World} {g m k : Nat} {e : TypeId} {l : List Int} (h : w.heap[g]? = some (fillI l m e)) (hk : k < m) : ∃ u, w.cell? ⟨g, k, none⟩ = some u := by
  unfold fillI at h
  rw [cell_of_row w g k _ e (0, 0) h]
  exact ⟨_, Array.getElem?_eq_getElem (by simp; omega)⟩
theorem fillI_step {w : World} {g m k : Nat} {e : TypeId} {l : List Int} (x : Int) (h : w.heap[g]? = some (fillI l m e)) (hk : l.length = k) (hm : k < m) :
    (w.setCell ⟨g, k, none⟩ (.int .i64 x)).heap[g]? = some (fillI (l ++ [x]) m e) := by
  unfold fillI at h ⊢
  rw [heap_setCell_same w g k _ e _ h]
  subst hk
  obtain ⟨d, rfl⟩ : ∃ d, m = l.length + 1 + d := ⟨m - (l.length + 1), by omega⟩
  congr 2
  rw [← Array.toList_inj]
  have e1 : l.length + 1 + d - l.length = d + 1 := by omega
  have e2 : l.length + 1 + d - (l ++ [x]).length = d := by simp
  rw [e1, e2]
  simp [List.replicate_succ]
theorem fillI_read {w : World} {g m : Nat} {e : TypeId} {l : List Int} (h : w.heap[g]? = some (fillI l m e)) (hm : l.length = m) (hl : ∀ x ∈ l, -9223372036854775808 ≤ x ∧ x ≤ 9223372036854775807) : RI w w.heap.size (some ⟨g, 0, none⟩) m l := by
  subst hm
  unfold fillI at h
  rw [Nat.sub_self, List.replicate_zero, List.append_nil] at h
  refine ⟨rfl, hl, fun _ => ⟨g, 0, rfl, ?_, fun j hj => ?_⟩⟩
  · rcases Nat.lt_or_ge g w.heap.size with h' | h'
    · exact h'
    · rw [Array.getElem?_eq_none h'] at h; cases h
  · rw [Nat.zero_add, cell_of_row w g j _ e (0, 0) h]
    simp [List.getElem?_eq_getElem hj]
theorem getR_at8 {b : List Int} {m k : Nat} (hb : b.length = 8 * m) (hk : k < m) : getR b (8 * (k : Int)) 8 = (numOf ((b.drop (0 + 8 * k)).take 8), 0) := by
  unfold getR
  rw [if_pos ⟨by decide, by omega⟩, if_neg (by omega)]
  rw [show (8 * (k : Int)).toNat = 0 + 8 * k by omega]
  rfl

set_option maxHeartbeats 1600000 in
theorem fUnpack_any (A : Option Addr) (n c B : Nat) (b : List Int) (many : Int) (w : World) (hr : RB w B A n b) (hB : B ≤ w.heap.size) (hc : n ≤ c) (hm : n ≤ maxLen) (hml : -9223372036854775808 ≤ many) (hmh : many ≤ 9223372036854775807) :
    Calls Tryz.prog 143 #[.slice A n c, .int .i64 many] w fun e w' => GotI w w' e (unpackR b many) := by
  obtain ⟨i0, hi, hz0, hz1, hz2⟩ := info_parts info_int
  have hmx := hm
  unfold maxLen at hm
  have HL := Lib.hid hr.len
  unfold unpackR
  by_cases h15 : 0 ≤ many ∧ many ≤ 15
  · rw [if_pos h15]
    obtain ⟨m, rfl⟩ := Int.eq_ofNat_of_zero_le h15.1
    have hm15 : m ≤ 15 := by omega
    clear h15 hml hmh
    by_cases h8 : n = 8 * m
    · rw [if_pos (by have := HL.out; omega)]
      rw [Int.toNat_natCast]
      have HB8 := Lib.hid (show b.length = 8 * m by have := HL.out; omega)
      clear HL
      obtain rfl := h8
      go_enter Tryz.func143, Tryz.ntmps143
      go_wp2_with (refine wpList_make_full w rfl _ _ 162 rfl w.heap.size 3 i0 (.int .i64 0) 1 Tryz.underlying162 hi hz0 hz1 .i64 .i64 _ _ m rfl rfl (by simp) (by simp) (by rw [hz2]; omega) (by unfold maxLen; omega) (Nat.le_refl _) ?_; intro w1 hown1 hg1; have hb1 : Below w.heap.size w w1 := (Below.refl _ _).grown hg1 (Nat.le_refl _) (by simp); have hblk1 := Lib.hid (fillI_start hown1); clear hown1 hg1)
      go_loopw [23] (fun i wr => ∃ k : Nat, k ≤ m ∧ i = .int .i64 k ∧ Hid (wr.heap[w.heap.size]? = some (fillI (unpackN 8 b 0 k) m 3)) ∧ Below w.heap.size w wr) (fun i _ => m - (intOf i).toNat)
      case atStart => exact ⟨0, Nat.zero_le _, rfl, hblk1, hb1⟩
      case round =>
        obtain ⟨k, hk, rfl, hblk, hbw⟩ := hrel
        clear hblk1
        by_cases hlt : k < m
        · have hfz : wr.frozen? ⟨w.heap.size, k, none⟩ = false := fillI_frozen hblk.out
          obtain ⟨u, hu⟩ := fillI_cell hblk.out hlt
          have HG := Lib.hid (Get_any A (8 * m) c B b (8 * (k : Int)) 8 wr (hr.below (hbw.mono hB)) hc (by unfold maxLen; omega))
          rw [getR_at8 HB8.out hlt] at HG
          have hst := Lib.hid (unpackN_step 8 b 0 k)
          generalize numOf ((b.drop (0 + 8 * k)).take 8) = x at HG hst
          have HS := Lib.hid (fillI_step (w := wr) x hblk.out (unpackN_length 8 b 0 k) hlt)
          rw [← hst.out] at HS
          clear hst hblk
          go_wp2_with fail
          refine HG.out.mono ?_
          rintro e w2 ⟨rfl, rfl⟩
          go_wp2
          go_roundw
          case rel => exact ⟨k + 1, by omega, by go_num, HS, hbw.setCell (Nat.le_refl _) _⟩
          case measure => simp [intOf]; omega
        · obtain rfl : k = m := by omega
          have HR := Lib.hid (fillI_read hblk.out (unpackN_length 8 b 0 k) (unpackN_ints 8 b 0 k hr.bytes))
          clear hblk
          go_wp2
          go_ret2
          exact ⟨_, _, _, rfl, Nat.le_refl _, by omega, HR.out, hbw⟩
    · rw [if_neg (by have := HL.out; omega)]
      have h0 : ((n : Int) != 8 * (m : Int)) = true := by simp; omega
      go_enter Tryz.func143, Tryz.ntmps143
      go_wp2
      go_ret2
      exact GotI.none_ _ _
  · rw [if_neg h15]
    by_cases hneg : many < 0
    · clear h15
      go_enter Tryz.func143, Tryz.ntmps143
      go_wp2
      go_ret2
      exact GotI.none_ _ _
    · have hbig : 15 < many := by omega
      clear h15
      go_enter Tryz.func143, Tryz.ntmps143
      go_wp2
      go_ret2
      exact GotI.none_ _ _

set_option maxHeartbeats 1600000 in
theorem rUnpack_any (A : Option Addr) (n c B : Nat) (b : List Int) (many : Int) (w : World) (hr : RB w B A n b) (hB : B ≤ w.heap.size) (hc : n ≤ c) (hm : n ≤ maxLen) (hml : -9223372036854775808 ≤ many) (hmh : many ≤ 9223372036854775807) :
    Calls Tryz.prog 144 #[.slice A n c, .int .i64 many] w fun e w' => GotI w w' e (unpackR b many) := by
  obtain ⟨i0, hi, hz0, hz1, hz2⟩ := info_parts info_int
  have hmx := hm
  unfold maxLen at hm
  have HL := Lib.hid hr.len
  unfold unpackR
  by_cases h15 : 0 ≤ many ∧ many ≤ 15
  · rw [if_pos h15]
    obtain ⟨m, rfl⟩ := Int.eq_ofNat_of_zero_le h15.1
    have hm15 : m ≤ 15 := by omega
    clear h15 hml hmh
    by_cases h8 : n = 8 * m
    · rw [if_pos (by have := HL.out; omega)]
      rw [Int.toNat_natCast]
      have HB8 := Lib.hid (show b.length = 8 * m by have := HL.out; omega)
      clear HL
      obtain rfl := h8
      go_enter Tryz.func144, Tryz.ntmps144
      go_wp2_with fail
      go_loopw [6, 7] (fun v i wr => ∃ k : Nat, k ≤ m ∧ i = .int .i64 k ∧ Hid (wr.ownsRow w.heap.size 3 1 v k ((unpackN 8 b 0 k).map (Value.int .i64))) ∧ Below w.heap.size w wr) (fun _ i _ => m - (intOf i).toNat)
      case atStart => exact ⟨0, Nat.zero_le _, rfl, Lib.hid (World.ownsRow_nil _ _ _ _), Below.refl _ _⟩
      case round =>
        obtain ⟨k, hk, rfl, hown, hbw⟩ := hrel
        by_cases hlt : k < m
        · have HG := Lib.hid (refGet_any A (8 * m) c B b (8 * (k : Int)) 8 wr (hr.below (hbw.mono hB)) hc (by unfold maxLen; omega))
          rw [getR_at8 HB8.out hlt] at HG
          have hst := Lib.hid (unpackN_step 8 b 0 k)
          generalize numOf ((b.drop (0 + 8 * k)).take 8) = x at HG hst
          go_wp2_with fail
          refine HG.out.mono ?_
          rintro e w2 ⟨rfl, rfl⟩
          go_wp2_with (refine wpList_append_int rfl _ _ rfl w.heap.size _ k _ rfl wr.heap.size x _ rfl (hown.out.alloc _) (heap_alloc_new _ _) (by omega) (by have := hbw.size; simp; omega) ?_; intro v2 w2 hown2 hb2; rw [← hst.out] at hown2; have HO := Lib.hid hown2; have hbn := (hbw.alloc hbw.size _).trans hb2; clear hown2 hb2)
          go_roundw
          case rel => exact ⟨k + 1, by omega, by go_num, HO, hbn⟩
          case measure => simp [intOf]; omega
        · obtain rfl : k = m := by omega
          obtain ⟨A', c', rfl, hc'⟩ := int_own_shape hown.out
          have HR := Lib.hid (RI.of_own hown.out (unpackN_ints 8 b 0 k hr.bytes)).1
          clear hown
          go_wp2
          go_ret2
          exact ⟨_, _, _, rfl, hc', by omega, HR.out, hbw⟩
    · rw [if_neg (by have := HL.out; omega)]
      have h0 : ((n : Int) != 8 * (m : Int)) = true := by simp; omega
      go_enter Tryz.func144, Tryz.ntmps144
      go_wp2
      go_ret2
      exact GotI.none_ _ _
  · rw [if_neg h15]
    by_cases hneg : many < 0
    · clear h15
      go_enter Tryz.func144, Tryz.ntmps144
      go_wp2
      go_ret2
      exact GotI.none_ _ _
    · have hbig : 15 < many := by omega
      clear h15
      go_enter Tryz.func144, Tryz.ntmps144
      go_wp2
      go_ret2
      exact GotI.none_ _ _


end Go.Proofs.YtlcbmobdokicaaaGreat
