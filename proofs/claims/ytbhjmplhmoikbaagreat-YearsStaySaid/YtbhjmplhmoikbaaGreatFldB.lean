/-
  Contracts of field.Unpack and of the plain Unpack: the numbers, as many as were asked, or which refusal; nothing that was there is written. No condition but that lengths are ints.
-/
import Derived.Test.YtbhjmplhmoikbaaGreatFldA
import Derived.Laws.CopyOwn
namespace Go.Proofs.YtbhjmplhmoikbaaGreat
open Go.RowKit
set_option maxRecDepth 100000
set_option linter.unusedVariables false

/-- What Unpack answers: the numbers, and which refusal. -/
def unpackR (b : List Int) (m : Int) : List Int × Int := if 0 ≤ m ∧ m ≤ 15 then (if (b.length : Int) = 8 * m then (unpackN 8 b 0 m.toNat, 0) else ([], 4)) else ([], 1)

/-- A slice of ints with which refusal, as a call answers it. -/
def GotI (w w' : World) (e : Ending) (r : List Int × Int) : Prop := ∃ A k c, e = .returned (.tuple #[.slice A k c, .int .i64 r.2]) ∧ k ≤ c ∧ k ≤ 1000 ∧ RI w' w'.heap.size A k r.1 ∧ Below w.heap.size w w'
theorem GotI.none_ (w : World) (x : Int) : GotI w w (.returned (.tuple #[.slice none 0 0, .int .i64 x])) ([], x) := ⟨none, 0, 0, rfl, Nat.le_refl _, Nat.zero_le _, RI.nil_, Below.refl _ _⟩

/-- A block of m ints of which the first k are known. -/
def fillI (l : List Int) (m : Nat) (e : TypeId) : Obj := .cells ((l ++ List.replicate (m - l.length) 0).map (Value.int .i64)).toArray e (0, 0)
theorem fillI_start {w : World} {base e g n : Nat} (h : w.ownsRow base e 1 (.slice (some ⟨g, 0, none⟩) n n) n (madeCells (Value.int .i64 0).cells (n * 1)).toList) : w.heap[g]? = some (fillI [] n e) := by
  have := made_block h
  rw [show (Value.int .i64 0).cells = #[Value.int .i64 0] from rfl, toList_madeCells_one, Nat.mul_one] at this
  rw [this]
  simp [fillI]
theorem fillI_frozen {w : World} {g m k : Nat} {e : TypeId} {l : List Int} (h : w.heap[g]? = some (fillI l m e)) : w.frozen? ⟨g, k, none⟩ = false := by
  unfold fillI at h
  simp [World.frozen?, h]
theorem fillI_cell {w : World} {g m k : Nat} {e : TypeId} {l : List Int} (h : w.heap[g]? = some (fillI l m e)) (hk : k < m) : ∃ u, w.cell? ⟨g, k, none⟩ = some u := by
  unfold fillI at h
  rw [cell_of_row w g k _ e (0, 0) h]
  exact ⟨_, Array.getElem?_eq_getElem (by simp; omega)⟩
theorem fillI_step {w : World} {g m k : Nat} {e : TypeId} {l : List Int} (x : Int) (h : w.heap[g]? = some (fillI l m e)) (hk : l.length = k) (hm : k < m) :
    (w.setCell ⟨g, k, none⟩ (.int .i64 x)).heap[g]? = some (fillI (l ++ [x]) m e) := by
  unfold fillI at h ⊢
  rw [heap_setCell_same w g k _ e _ h]
  subst hk
  obtain ⟨d, rfl⟩ : ∃ d, m = l.length + 1 + d := ⟨m - (l.length + 1), by omega⟩
  congr 2
  rw [← Array.toList_inj]
  have e1 : l.length + 1 + d - l.length = d + 1 := by omega
  have e2 : l.length + 1 + d - (l ++ [x]).length = d := by simp
  rw [e1, e2]
  simp [List.replicate_succ]
theorem fillI_read {w : World} {g m : Nat} {e : TypeId} {l : List Int} (h : w.heap[g]? = some (fillI l m e)) (hm : l.length = m) (hl : ∀ x ∈ l, -9223372036854775808 ≤ x ∧ x ≤ 9223372036854775807) : RI w w.heap.size (some ⟨g, 0, none⟩) m l := by
  subst hm
  unfold fillI at h
  rw [Nat.sub_self, List.replicate_zero, List.append_nil] at h
  refine ⟨rfl, hl, fun _ => ⟨g, 0, rfl, ?_, fun j hj => ?_⟩⟩
  · rcases Nat.lt_or_ge g w.heap.size with h' | h'
    · exact h'
    · rw [Array.getElem?_eq_none h'] at h; cases h
  · rw [Nat.zero_add, cell_of_row w g j _ e (0, 0) h]
    simp [List.getElem?_eq_getElem hj]
theorem getR_at8 {b : List Int} {m k : Nat} (hb : b.length = 8 * m) (hk : k < m) : getR b (8 * (k : Int)) 8 = (numOf ((b.drop (0 + 8 * k)).take 8), 0) := by
  unfold getR
  rw [if_pos ⟨by decide, by omega⟩, if_neg (by omega)]
  rw [show (8 * (k : Int)).toNat = 0 + 8 * k by omega]
  rfl

set_option maxHeartbeats 1600000 in
theorem fUnpack_any (A : Option Addr) (n c B : Nat) (b : List Int) (many : Int) (w : World) (hr : RB w B A n b) (hB : B ≤ w.heap.size) (hc : n ≤ c) (hm : n ≤ maxLen) (hml : -9223372036854775808 ≤ many) (hmh : many ≤ 9223372036854775807) :
    Calls Tryz.prog 86 #[.slice A n c, .int .i64 many] w fun e w' => GotI w w' e (unpackR b many) := by
  obtain ⟨i0, hi, hz0, hz1, hz2⟩ := info_parts info_int
  have hmx := hm
  unfold maxLen at hm
  have HL := Lib.hid hr.len
  unfold unpackR
  by_cases h15 : 0 ≤ many ∧ many ≤ 15
  · rw [if_pos h15]
    obtain ⟨m, rfl⟩ := Int.eq_ofNat_of_zero_le h15.1
    have hm15 : m ≤ 15 := by omega
    clear h15 hml hmh
    by_cases h8 : n = 8 * m
    · rw [if_pos (by have := HL.out; omega)]
      rw [Int.toNat_natCast]
      have HB8 := Lib.hid (show b.length = 8 * m by have := HL.out; omega)
      clear HL
      obtain rfl := h8
      go_enter Tryz.func86, Tryz.ntmps86
      go_wp2_with (refine wpList_make_full w rfl _ _ 28 rfl w.heap.size 3 i0 (.int .i64 0) 1 Tryz.underlying28 hi hz0 hz1 .i64 .i64 _ _ m rfl rfl (by simp) (by simp) (by rw [hz2]; omega) (by unfold maxLen; omega) (Nat.le_refl _) ?_; intro w1 hown1 hg1; have hb1 : Below w.heap.size w w1 := (Below.refl _ _).grown hg1 (Nat.le_refl _) (by simp); have hblk1 := Lib.hid (fillI_start hown1); clear hown1 hg1)
      go_loopw [23] (fun i wr => ∃ k : Nat, k ≤ m ∧ i = .int .i64 k ∧ Hid (wr.heap[w.heap.size]? = some (fillI (unpackN 8 b 0 k) m 3)) ∧ Below w.heap.size w wr) (fun i _ => m - (intOf i).toNat)
      case atStart => exact ⟨0, Nat.zero_le _, rfl, hblk1, hb1⟩
      case round =>
        obtain ⟨k, hk, rfl, hblk, hbw⟩ := hrel
        clear hblk1
        by_cases hlt : k < m
        · have hfz : wr.frozen? ⟨w.heap.size, k, none⟩ = false := fillI_frozen hblk.out
          obtain ⟨u, hu⟩ := fillI_cell hblk.out hlt
          have HG := Lib.hid (Get_any A (8 * m) c B b (8 * (k : Int)) 8 wr (hr.below (hbw.mono hB)) hc (by unfold maxLen; omega))
          rw [getR_at8 HB8.out hlt] at HG
          have hst := Lib.hid (unpackN_step 8 b 0 k)
          generalize numOf ((b.drop (0 + 8 * k)).take 8) = x at HG hst
          have HS := Lib.hid (fillI_step (w := wr) x hblk.out (unpackN_length 8 b 0 k) hlt)
          rw [← hst.out] at HS
          clear hst hblk
          go_wp2_with fail
          refine HG.out.mono ?_
          rintro e w2 ⟨rfl, rfl⟩
          go_wp2
          go_roundw
          case rel => exact ⟨k + 1, by omega, by go_num, HS, hbw.setCell (Nat.le_refl _) _⟩
          case measure => simp [intOf]; omega
        · obtain rfl : k = m := by omega
          have HR := Lib.hid (fillI_read hblk.out (unpackN_length 8 b 0 k) (unpackN_ints 8 b 0 k hr.bytes))
          clear hblk
          go_wp2
          go_ret2
          exact ⟨_, _, _, rfl, Nat.le_refl _, by omega, HR.out, hbw⟩
    · rw [if_neg (by have := HL.out; omega)]
      have h0 : ((n : Int) != 8 * (m : Int)) = true := by simp; omega
      go_enter Tryz.func86, Tryz.ntmps86
      go_wp2
      go_ret2
      exact GotI.none_ _ _
  · rw [if_neg h15]
    by_cases hneg : many < 0
    · clear h15
      go_enter Tryz.func86, Tryz.ntmps86
      go_wp2
      go_ret2
      exact GotI.none_ _ _
    · have hbig : 15 < many := by omega
      clear h15
      go_enter Tryz.func86, Tryz.ntmps86
      go_wp2
      go_ret2
      exact GotI.none_ _ _

set_option maxHeartbeats 1600000 in
theorem rUnpack_any (A : Option Addr) (n c B : Nat) (b : List Int) (many : Int) (w : World) (hr : RB w B A n b) (hB : B ≤ w.heap.size) (hc : n ≤ c) (hm : n ≤ maxLen) (hml : -9223372036854775808 ≤ many) (hmh : many ≤ 9223372036854775807) :
    Calls Tryz.prog 74 #[.slice A n c, .int .i64 many] w fun e w' => GotI w w' e (unpackR b many) := by
  obtain ⟨i0, hi, hz0, hz1, hz2⟩ := info_parts info_int
  have hmx := hm
  unfold maxLen at hm
  have HL := Lib.hid hr.len
  unfold unpackR
  by_cases h15 : 0 ≤ many ∧ many ≤ 15
  · rw [if_pos h15]
    obtain ⟨m, rfl⟩ := Int.eq_ofNat_of_zero_le h15.1
    have hm15 : m ≤ 15 := by omega
    clear h15 hml hmh
    by_cases h8 : n = 8 * m
    · rw [if_pos (by have := HL.out; omega)]
      rw [Int.toNat_natCast]
      have HB8 := Lib.hid (show b.length = 8 * m by have := HL.out; omega)
      clear HL
      obtain rfl := h8
      go_enter Tryz.func74, Tryz.ntmps74
      go_wp2_with fail
      go_loopw [6, 7] (fun v i wr => ∃ k : Nat, k ≤ m ∧ i = .int .i64 k ∧ Hid (wr.ownsRow w.heap.size 3 1 v k ((unpackN 8 b 0 k).map (Value.int .i64))) ∧ Below w.heap.size w wr) (fun _ i _ => m - (intOf i).toNat)
      case atStart => exact ⟨0, Nat.zero_le _, rfl, Lib.hid (World.ownsRow_nil _ _ _ _), Below.refl _ _⟩
      case round =>
        obtain ⟨k, hk, rfl, hown, hbw⟩ := hrel
        by_cases hlt : k < m
        · have HG := Lib.hid (refGet_any A (8 * m) c B b (8 * (k : Int)) 8 wr (hr.below (hbw.mono hB)) hc (by unfold maxLen; omega))
          rw [getR_at8 HB8.out hlt] at HG
          have hst := Lib.hid (unpackN_step 8 b 0 k)
          generalize numOf ((b.drop (0 + 8 * k)).take 8) = x at HG hst
          go_wp2_with fail
          refine HG.out.mono ?_
          rintro e w2 ⟨rfl, rfl⟩
          go_wp2_with (refine wpList_append_int rfl _ _ rfl w.heap.size _ k _ rfl wr.heap.size x _ rfl (hown.out.alloc _) (heap_alloc_new _ _) (by omega) (by have := hbw.size; simp; omega) ?_; intro v2 w2 hown2 hb2; rw [← hst.out] at hown2; have HO := Lib.hid hown2; have hbn := (hbw.alloc hbw.size _).trans hb2; clear hown2 hb2)
          go_roundw
          case rel => exact ⟨k + 1, by omega, by go_num, HO, hbn⟩
          case measure => simp [intOf]; omega
        · obtain rfl : k = m := by omega
          obtain ⟨A', c', rfl, hc'⟩ := int_own_shape hown.out
          have HR := Lib.hid (RI.of_own hown.out (unpackN_ints 8 b 0 k hr.bytes)).1
          clear hown
          go_wp2
          go_ret2
          exact ⟨_, _, _, rfl, hc', by omega, HR.out, hbw⟩
    · rw [if_neg (by have := HL.out; omega)]
      have h0 : ((n : Int) != 8 * (m : Int)) = true := by simp; omega
      go_enter Tryz.func74, Tryz.ntmps74
      go_wp2
      go_ret2
      exact GotI.none_ _ _
  · rw [if_neg h15]
    by_cases hneg : many < 0
    · clear h15
      go_enter Tryz.func74, Tryz.ntmps74
      go_wp2
      go_ret2
      exact GotI.none_ _ _
    · have hbig : 15 < many := by omega
      clear h15
      go_enter Tryz.func74, Tryz.ntmps74
      go_wp2
      go_ret2
      exact GotI.none_ _ _


end Go.Proofs.YtbhjmplhmoikbaaGreat
