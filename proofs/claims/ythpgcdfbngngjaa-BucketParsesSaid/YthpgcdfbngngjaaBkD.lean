/-
  Contract of bucket.lay: some parts go over a page, one behind the other; that page alone is written. Condition: the parts lie within the page, and stand apart from it.
-/
import Derived.Test.YthpgcdfbngngjaaBkC
import Derived.Test.YthpgcdfbngngjaaBlk
import Derived.Test.YthpgcdfbngngjaaRefPut
namespace Go.Proofs.Ythpgcdfbngngjaa
open Go.RowKit
set_option maxRecDepth 100000
set_option linter.unusedVariables false

theorem size_u8'' : (Try.prog.info? 5).map (·.size) = some 1 := by kernel_rfl
/-- The page with some bytes over it. -/
theorem splice_two {L d e : List Int} {a : Nat} (h : a + d.length + e.length ≤ L.length) : splice (splice L a d) (a + d.length) e = splice L a (d ++ e) := by
  have hP : (L.take a ++ d).length = a + d.length := by simp; omega
  have e0 : splice L a d = (L.take a ++ d) ++ L.drop (a + d.length) := by unfold splice; simp [List.append_assoc]
  have h1 : ((L.take a ++ d) ++ L.drop (a + d.length)).take (a + d.length) = L.take a ++ d := List.take_left' hP
  have h2 : ((L.take a ++ d) ++ L.drop (a + d.length)).drop (a + d.length + e.length) = L.drop (a + (d ++ e).length) := by
    rw [← List.drop_drop, List.drop_left' hP, List.drop_drop, List.length_append, Nat.add_assoc]
  rw [e0]
  unfold splice
  rw [h1, h2]
  simp [List.append_assoc]
theorem splice_nil (L : List Int) (a : Nat) : splice L a [] = L := by unfold splice; simp

theorem Touch.then_ {F : Nat → Prop} {a b c : World} (h : Touch F a b) (k : Touch F b c) : Touch F a c :=
  ⟨k.os.trans h.os, k.tape.trans h.tape, k.output.trans h.output, Nat.le_trans h.size k.size, fun j hj hn => (k.block j (Nat.lt_of_lt_of_le hj h.size) hn).trans (h.block j hj hn)⟩
/-- copy, as an operation of a region in order: one block alone is written. -/
theorem wpList_copy_at {P : Program} {w : World} {ops : Array Oper} {rest : List Oper} {o : Oper} {a : Act} {Q : Exit → Act → World → Prop} (hgd : o.guard = none) (d s : Operand) (dT sT : TypeId)
    (ho : o.op = .call { callee := .builtin .copy, args := #[d, s], argTypes := #[dT, sT] }) (elem : TypeId) (hu : P.underlying dT = some (.slice elem)) (hsz : (P.info? elem).map (·.size) = some 1)
    (dp sp : Option Addr) (dLen dCap sLen sCap : Nat) (hd : a.eval d = .slice dp dLen dCap) (hs : a.eval s = .slice sp sLen sCap)
    (g off : Nat) (cur : List Value) (t : TypeId) (hg : w.heap[g]? = some (.cells cur.toArray t (0, 0))) (cs : List Value) (hn : cs.length = Nat.min sLen dLen)
    (hpos : 0 < cs.length → dp = some ⟨g, off, none⟩ ∧ ∃ ad, sp = some ad ∧ ∀ j v, cs[j]? = some v → w.cell? (ad.add j) = some v)
    (hfit : off + cs.length ≤ cur.length) (h1 : ∀ v ∈ cs, v.oneCell' = true)
    (h : ∀ w', Hid (w'.heap[g]? = some (.cells (splice cur off cs).toArray t (0, 0))) → Hid (Touch (fun j => j = g) w w') → wpList P ops Q rest (a.put o.dst (goInt cs.length)) w') :
    wpList P ops Q (o :: rest) a w := by
  by_cases h0 : cs.length = 0
  · obtain rfl : cs = [] := List.eq_nil_of_length_eq_zero h0
    refine wpList_copy_nothing hgd d s dT sT ho elem hu hsz dp sp dLen dCap sLen sCap hd hs (by simpa using hn.symm) ?_
    exact h w (show _ = _ by simpa [splice] using hg) (Lib.hid (Touch.refl _ _))
  · obtain ⟨rfl, ad, rfl, hsrc⟩ := hpos (by omega)
    refine wpList_copy_own hgd d s dT sT ho elem hu hsz g off dLen dCap ad sLen sCap hd hs cur.toArray t hg cs hn hsrc (by simpa using hfit) h1 ?_
    exact h _ (show _ = _ by simpa [splice] using setRow_heap w g _ _ t _ hg) (Lib.hid ⟨rfl, rfl, rfl, by simp [World.setRow], fun k hk hne => setRow_other w g k _ (fun e => hne e)⟩)

/-- A part, apart from block g. -/
def PartAt (w : World) (g b off : Nat) (l : List Int) : Prop :=
  ∃ (D : Option Addr) (m c : Nat), w.cell? ⟨b, off, none⟩ = some (.slice D m c) ∧ m ≤ maxLen ∧ m ≤ c ∧ RB w w.heap.size D m l ∧ ∀ x, D = some x → 0 < m → x.block ≠ g
/-- The slice at A of n parts reads as pl, apart from block g. -/
def RParts (w : World) (g : Nat) (A : Option Addr) (n : Nat) (pl : List (List Int)) : Prop :=
  pl.length = n ∧ (0 < n → ∃ b off, A = some ⟨b, off, none⟩ ∧ b ≠ g ∧ b < w.heap.size ∧ ∀ j l, pl[j]? = some l → PartAt w g b (off + j) l)
theorem PartAt.keep {w w' : World} {g b off : Nat} {l : List Int} (h : PartAt w g b off l) (hb : b < w.heap.size) (hbg : b ≠ g) (ht : Touch (fun j => j = g) w w') : PartAt w' g b off l := by
  obtain ⟨D, m, c, h0, h1, h2, h3, h4⟩ := h
  refine ⟨D, m, c, (World.cell?_of_block (a := ⟨b, off, none⟩) (ht.block b hb hbg)).trans h0, h1, h2, ⟨h3.1, h3.2.1, fun hm => ?_⟩, h4⟩
  obtain ⟨bb, o, e, hbb, hc⟩ := h3.2.2 hm
  have hne : bb ≠ g := h4 _ e hm
  exact ⟨bb, o, e, Nat.lt_of_lt_of_le hbb ht.size, fun j hj => (World.cell?_of_block (a := ⟨bb, o + j, none⟩) (ht.block bb hbb hne)).trans (hc j hj)⟩

set_option maxHeartbeats 3200000 in
theorem bkLay_any {w : World} {g a n c : Nat} {A : Option Addr} {L : List Int} {pl : List (List Int)} (hp : w.heap[g]? = some (.cells (L.map (Value.int .u8)).toArray 5 (0, 0))) (hL : L.length = 240) (hr : RParts w g A n pl) (hm : n ≤ maxLen) (ha : a + pl.flatten.length ≤ 240) :
    Calls Try.prog 30 #[.slice (some ⟨g, 0, none⟩) 240 240, .int .i64 (a : Int), .slice A n c] w fun e w' => e = .returned (.int .i64 ((a + pl.flatten.length : Nat) : Int)) ∧ w'.heap[g]? = some (.cells ((splice L a pl.flatten).map (Value.int .u8)).toArray 5 (0, 0)) ∧ Touch (fun j => j = g) w w' := by
  unfold maxLen at hm
  have hgl : g < w.heap.size := (Array.getElem?_eq_some_iff.1 hp).1
  have HLL := Lib.hid hL
  have HR := Lib.hid hr
  have HA := Lib.hid ha
  have HP := Lib.hid hp
  clear hL hr hp ha
  go_enter Try.func30, Try.ntmps30
  go_wp2_with fail
  go_loopw [1, 11] (fun av i wr => ∃ k : Nat, k ≤ n ∧ i = .int .i64 k ∧ av = .int .i64 ((a + (pl.take k).flatten.length : Nat) : Int) ∧ Hid (wr.heap[g]? = some (.cells ((splice L a (pl.take k).flatten).map (Value.int .u8)).toArray 5 (0, 0))) ∧ Hid (Touch (fun j => j = g) w wr)) (fun _ i _ => n - (intOf i).toNat)
  case atStart =>
    refine ⟨0, Nat.zero_le _, rfl, by simp, Lib.hid ?_, Lib.hid (Touch.refl _ _)⟩
    rw [List.take_zero, List.flatten_nil, splice_nil]
    exact HP.out
  case round =>
    obtain ⟨k, hk, rfl, rfl, hblk, htc⟩ := hrel
    by_cases hlt : k < n
    · have hlt' : (k : Int) < (n : Int) := by omega
      obtain ⟨b, off, rfl, hbg, hb, hat⟩ := HR.out.2 (by omega)
      obtain ⟨y, hy⟩ : ∃ y, pl[k]? = some y := ⟨_, List.getElem?_eq_getElem (by rw [HR.out.1]; exact hlt)⟩
      obtain ⟨D, m, cm, h0, h1, h2, h3, h4⟩ := (hat k y hy).keep hb hbg htc.out
      have hst : (pl.take (k + 1)).flatten = (pl.take k).flatten ++ y := by
        obtain ⟨hk', rfl⟩ := List.getElem?_eq_some_iff.1 hy
        rw [List.take_succ_eq_append_getElem hk', List.flatten_append]
        simp
      have hle : (pl.take (k + 1)).flatten.length ≤ pl.flatten.length := by
        have : pl.flatten = (pl.take (k + 1)).flatten ++ (pl.drop (k + 1)).flatten := by rw [← List.flatten_append, List.take_append_drop]
        rw [this, List.length_append]; omega
      have HST := Lib.hid hst
      rw [hst, List.length_append, h3.len] at hle
      have hfit : a + (pl.take k).flatten.length + m ≤ 240 := by have := HA.out; omega
      have HLS := Lib.hid (show (splice L a (pl.take k).flatten).length = 240 from by
        rw [length_splice _ _ _ (by rw [HLL.out]; omega)]
        exact HLL.out)
      have HNX := Lib.hid (show splice (splice L a (pl.take k).flatten) (a + (pl.take k).flatten.length) y = splice L a (pl.take (k + 1)).flatten from by
        rw [splice_two (by rw [h3.len, HLL.out]; omega), HST.out])
      have HAK := Lib.hid (show a + (pl.take k).flatten.length + m = a + (pl.take (k + 1)).flatten.length by rw [HST.out, List.length_append, h3.len, Nat.add_assoc])
      have H3 := Lib.hid h3
      clear hat hy hst hle h3
      generalize splice L a (pl.take k).flatten = Lk at hblk HLS HNX
      generalize a + (pl.take k).flatten.length = ak at hfit HNX HAK ⊢
      have hI3 : IntKind.i64.wrap ((ak : Int) + (m : Int)) = ((ak + m : Nat) : Int) := by unfold IntKind.wrap; simp [IntKind.bits, IntKind.signed]; omega
      have hI1 : (0 : Int) ≤ (ak : Int) := by omega
      have hI2 : (ak : Int) ≤ 240 := by omega
      have hfin : ∀ w2 : World, Hid (w2.heap[g]? = some (.cells (splice (Lk.map (Value.int .u8)) ak (y.map (Value.int .u8))).toArray 5 (0, 0))) → Hid (Touch (fun j => j = g) wr w2) → w2.heap[g]? = some (.cells ((splice L a (pl.take (k + 1)).flatten).map (Value.int .u8)).toArray 5 (0, 0)) ∧ Touch (fun j => j = g) w w2 := fun w2 q1 q2 => by
        have := q1.out
        have hsm := splice_map (L := Lk) (d := y) (tl := []) (o := ak) (by rw [H3.out.len, HLS.out]; omega)
        rw [List.append_nil, List.append_nil] at hsm
        rw [hsm, HNX.out] at this
        exact ⟨this, htc.out.then_ q2.out⟩
      have HFIN := Lib.hid hfin
      clear hfin
      rcases Nat.lt_or_ge ak 240 with h240 | h240
      · have hne : ¬ (ak = 240) := by omega
        go_wp2_with (with_reducible refine wpList_copy_at rfl (.tmp 18) (.tmp 19) 22 22 rfl 5 Try.underlying22 size_u8'' (some ⟨g, ak, none⟩) D (240 - ak) (240 - ak) m cm rfl rfl g ak (Lk.map (Value.int .u8)) 5 hblk.out (y.map (Value.int .u8)) (by rw [List.length_map, H3.out.len]; exact (Nat.min_eq_left (by omega)).symm) (fun hp => ⟨rfl, copy_src H3.out hp⟩) (by rw [List.length_map, List.length_map, H3.out.len, HLS.out]; omega) (oneCell_bytes _) ?_; intro w2 hblk2 htc2)
        have HE := Lib.hid (HFIN.out w2 hblk2 htc2)
        clear hblk htc hblk2 htc2 HFIN h0
        go_roundw
        case rel => exact ⟨k + 1, by omega, by go_num, by rw [H3.out.len, ← HAK.out, wrap63 (by omega) (by omega)]; congr 1, Lib.hid HE.out.1, Lib.hid HE.out.2⟩
        case measure => simp [intOf]; omega
      · obtain rfl : ak = 240 := by omega
        obtain rfl : m = 0 := by omega
        go_wp2_with (with_reducible refine wpList_copy_at rfl (.tmp 18) (.tmp 19) 22 22 rfl 5 Try.underlying22 size_u8'' _ D 0 0 0 cm rfl rfl g 240 (Lk.map (Value.int .u8)) 5 hblk.out (y.map (Value.int .u8)) (by rw [List.length_map, H3.out.len]; decide) (fun hp => absurd hp (by rw [List.length_map, H3.out.len]; omega)) (by rw [List.length_map, List.length_map, H3.out.len, HLS.out]; omega) (oneCell_bytes _) ?_; intro w2 hblk2 htc2)
        have HE := Lib.hid (HFIN.out w2 hblk2 htc2)
        clear hblk htc hblk2 htc2 HFIN h0
        go_roundw
        case rel => exact ⟨k + 1, by omega, by go_num, by rw [H3.out.len, ← HAK.out, wrap63 (by omega) (by omega)]; congr 1, Lib.hid HE.out.1, Lib.hid HE.out.2⟩
        case measure => simp [intOf]; omega
    · obtain rfl : k = n := by omega
      have e : pl.take k = pl := List.take_of_length_le (by rw [HR.out.1]; exact Nat.le_refl _)
      rw [e] at hblk ⊢
      clear e
      go_wp2
      go_ret
      exact ⟨rfl, hblk.out, htc.out⟩
end Go.Proofs.Ythpgcdfbngngjaa
