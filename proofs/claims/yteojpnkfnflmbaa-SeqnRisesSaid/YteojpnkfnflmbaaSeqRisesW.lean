/-
  SeqnRises by the walk: it returns true. Condition: what came in is a slice of bytes.
-/
import Derived.Test.YteojpnkfnflmbaaSeqR
namespace Go.Proofs.Yteojpnkfnflmbaa
open Go.RowKit Go.Maps
set_option maxRecDepth 100000
set_option linter.unusedVariables false

/-- Behind k rounds: the view has what was given last, and so has the array at g. -/
def RisesAt (w0 wr : World) (X : Nat → Prop) (v m c g k : Nat) : Prop :=
  ∃ (S : VS) (f : Nat → Int), ViewAt wr X v m c S ∧ CntS S f ∧ (∀ j, j < 4 → 0 ≤ f j ∧ f j ≤ k) ∧ S.C.length ≤ k ∧
    wr.heap[g]? = some (.cells #[.int .i64 (f 0), .int .i64 (f 1), .int .i64 (f 2), .int .i64 (f 3)] 60 (0, 0)) ∧ Below w0.heap.size w0 wr

set_option maxHeartbeats 6400000 in
theorem seqnRises_any {w : World} {A : Option Addr} {n cap : Nat} {l : List Int} (hr : RB w w.heap.size A n l) (hn : n ≤ maxLen) (hcap : n ≤ cap) :
    Calls Try.prog 6 #[.slice A n cap] w fun e w' => e = .returned (.bool true) ∧ Below w.heap.size w w' := by
  unfold maxLen at hn
  by_cases big : 60 < n
  · have k1 : decide ((n : Int) > 60) = true := decide_eq_true (by omega)
    clear hr
    go_enter Try.func6, Try.ntmps6
    go_wp2_with fail
    refine (seqAwake_any _).mono ?_
    rintro e w1 ⟨rfl, hb⟩
    have HE := Lib.hid hb
    clear hb
    go_wp2
    go_ret
    exact ⟨rfl, HE.out⟩
  have k1 : decide ((n : Int) > 60) = false := decide_eq_false (by omega)
  have HN := Lib.hid (vNew_any w (fun _ => False) (fun k h => h.elim))
  go_enter Try.func6, Try.ntmps6
  go_wp2_with fail
  refine HN.out.mono ?_
  rintro e w1 ⟨v, m, c, rfl, h1, hb1, hv, hm, hc⟩
  obtain ⟨X, hX⟩ : ∃ X : Nat → Prop, X = fun k => False ∨ k = v ∨ k = m ∨ k = c := ⟨_, rfl⟩
  rw [← hX] at h1
  obtain ⟨g, hg⟩ : ∃ g, g = w1.heap.size := ⟨_, rfl⟩
  have hgv : v ≠ g ∧ m ≠ g ∧ c ≠ g := by rw [hg]; exact ⟨Nat.ne_of_lt (h1.lt v h1.xv), Nat.ne_of_lt (h1.lt m h1.xm), Nat.ne_of_lt (h1.lt c h1.xc)⟩
  have hgw : w.heap.size ≤ g := by rw [hg]; exact hb1.size
  have hba : Below w1.heap.size w1 (w1.alloc (.cells #[.int .i64 0, .int .i64 0, .int .i64 0, .int .i64 0] 60)) := (Below.refl _ _).alloc (Nat.le_refl _) _
  have h1a : ViewAt (w1.alloc (.cells #[.int .i64 0, .int .i64 0, .int .i64 0, .int .i64 0] 60)) (fun k => X k ∨ k = g) v m c ⟨[], []⟩ :=
    h1.keep hba.size (fun k hk hn hx => by rcases hx with hx | hx; exact hn hx; omega) (fun k hk => .inl hk) (fun k hk => by
      have hs : (w1.alloc (.cells #[.int .i64 0, .int .i64 0, .int .i64 0, .int .i64 0] 60)).heap.size = w1.heap.size + 1 := by simp
      rcases hk with hk | hk
      · have := h1.lt k hk; omega
      · omega) (fun k hk _ => hba.block k hk)
  have H0 : Hid (RisesAt w (w1.alloc (.cells #[.int .i64 0, .int .i64 0, .int .i64 0, .int .i64 0] 60)) (fun k => X k ∨ k = g) v m c g 0) := Lib.hid ⟨_, fun _ => 0, h1a, CntS.start, fun j _ => ⟨Int.le_refl _, Int.le_refl _⟩, Nat.le_refl _, by rw [hg]; exact heap_alloc_new w1 _, hb1.alloc hb1.size _⟩
  have hXg : ∀ k, ¬ (X k ∨ k = g) → k ≠ g := fun k hk e => hk (.inr e)
  obtain ⟨X', hX'⟩ : ∃ X' : Nat → Prop, X' = fun k => X k ∨ k = g := ⟨_, rfl⟩
  rw [← hX'] at H0
  have HXg : Hid (∀ k, ¬ X' k → k ≠ g) := Lib.hid (by rw [hX']; exact hXg)
  clear hX' hXg
  clear h1a hba
  clear h1 hb1 HN hX hv hm
  go_wp2_with fail
  rw [← hg]
  clear hg
  go_loopw [16] (fun i wr => ∃ k : Nat, k ≤ n ∧ i = .int .i64 k ∧ Hid (RisesAt w wr X' v m c g k ∧ (∀ k, ¬ X' k → k ≠ g))) (fun i _ => n - (intOf i).toNat)
  case atStart => exact ⟨0, Nat.zero_le _, rfl, Lib.hid ⟨H0.out, HXg.out⟩⟩
  case round =>
    obtain ⟨k, hk, rfl, ho⟩ := hrel
    by_cases hlt : k < n
    · obtain ⟨⟨S, f, hvw, hcn, hf, hcl, hbox, hbw⟩, _⟩ := ho.out
      obtain ⟨b, off, rfl, hb, hcell⟩ := hr.2.2 (by omega)
      have hck := (hbw.cell (p := ⟨b, off + k, none⟩) hb).trans (hcell k (by omega))
      have hx : 0 ≤ l[k]?.getD 0 ∧ l[k]?.getD 0 < 256 := by
        have hkl : k < l.length := by rw [hr.len]; exact hlt
        rw [List.getElem?_eq_getElem hkl]
        exact hr.bytes _ (List.getElem_mem hkl)
      generalize l[k]?.getD 0 = x at hck hx
      clear hcell
      obtain ⟨q, hq, hqx⟩ : ∃ q : Nat, q < 4 ∧ x % 4 = q := ⟨(x % 4).toNat, by omega, by omega⟩
      have hm1 : x.tmod 4 = q := by rw [Int.tmod_eq_emod_of_nonneg hx.1]; exact hqx
      have HX := Lib.hid (sNext_any hvw (q : Int) (by omega) (Nat.lt_of_le_of_lt hcl (by unfold maxLen; omega)))
      rw [hcn.is q hq, nextE_in ⟨(hf q hq).1, by have := (hf q hq).2; omega⟩] at HX
      go_wp2_with fail
      refine HX.out.mono ?_
      rintro e w2 ⟨rfl, hv2, ht2⟩
      have hgl : g < wr.heap.size := (Array.getElem?_eq_some_iff.1 hbox).1
      have hb2 := (ht2.block g hgl (fun e => hgv.2.2 e.symm)).trans hbox
      have hbw2 := hbw.trans (ht2.below (fun k e => by rw [e]; exact hc) hbw.size)
      have hcn2 := hcn.next hq ⟨(hf q hq).1, by have := (hf q hq).2; omega⟩
      have hcl2 := Nat.le_trans (next_len S (q : Int)) (Nat.succ_le_succ hcl)
      have cq : w2.cell? ⟨g, q, none⟩ = some (.int .i64 (f q)) := by
        rw [cell_of_row w2 g q _ _ (0, 0) hb2]
        rcases (show q = 0 ∨ q = 1 ∨ q = 2 ∨ q = 3 by omega) with rfl | rfl | rfl | rfl <;> rfl
      have fq : w2.frozen? ⟨g, q, none⟩ = false := by simp [World.frozen?, hb2]
      have hq4 : (q : Int) < 4 := by omega
      have hfq := hf q hq
      have wr1 : IntKind.i64.wrap (f q + 1) = f q + 1 := by rw [IntKind.wrap_i64]; first | (unfold wrap64; omega) | omega
      have hset : (w2.setCell ⟨g, q, none⟩ (.int .i64 (f q + 1))).heap[g]? = some (.cells #[.int .i64 (if 0 = q then f q + 1 else f 0), .int .i64 (if 1 = q then f q + 1 else f 1), .int .i64 (if 2 = q then f q + 1 else f 2), .int .i64 (if 3 = q then f q + 1 else f 3)] 60 (0, 0)) := by
        have := heap_setCell_same w2 g q _ _ (.int .i64 (f q + 1)) hb2
        rw [this]
        rcases (show q = 0 ∨ q = 1 ∨ q = 2 ∨ q = 3 by omega) with rfl | rfl | rfl | rfl <;> rfl
      have hv3 : ViewAt (w2.setCell ⟨g, q, none⟩ (.int .i64 (f q + 1))) X' v m c (S.next q) := by
        have hs3 : (w2.setCell ⟨g, q, none⟩ (.int .i64 (f q + 1))).heap.size = w2.heap.size := (Nat.le_antisymm (by simp [World.setCell]) ((Below.refl g w2).setCell (Nat.le_refl g) (p := ⟨g, q, none⟩) _).size)
        refine hv2.keep (Nat.le_of_eq hs3.symm) (fun _ _ h => h) (fun _ h => h) (fun k hk => by rw [hs3]; exact hv2.lt k hk) (fun k hk hh => heap_setCell_other _ _ _ _ ?_)
        rcases hh with rfl | rfl | rfl | hh
        · exact hgv.1
        · exact hgv.2.1
        · exact hgv.2.2
        · exact ho.out.2 k hh
      have HN : Hid (RisesAt w (w2.setCell ⟨g, q, none⟩ (.int .i64 (f q + 1))) X' v m c g (k + 1)) := Lib.hid ⟨_, _, hv3, hcn2, fun j hj => by
        have := hf j hj
        show 0 ≤ (if j = q then f q + 1 else f j) ∧ (if j = q then f q + 1 else f j) ≤ ((k + 1 : Nat) : Int)
        split <;> omega, hcl2, hset, hbw2.setCell hgw _⟩
      clear hv2 ht2 hb2 hbw2 hcn2 hcl2 hset hv3 hbox hbw hcn hf hcl hvw HX
      go_wp2_with fail
      go_roundw
      case rel => exact ⟨k + 1, by omega, by go_num, Lib.hid ⟨HN.out, ho.out.2⟩⟩
      case measure => simp [intOf]; omega
    · obtain rfl : k = n := by omega
      obtain ⟨⟨S, f, hvw, hcn, hf, hcl, hbox, hbw⟩, _⟩ := ho.out
      have HB := Lib.hid hbw
      clear hvw hcn hf hcl hbox hbw ho
      go_wp2_with fail
      refine (seqAwake_any _).mono ?_
      rintro e w3 ⟨rfl, hb3⟩
      have HE := Lib.hid (HB.out.trans (hb3.mono HB.out.size))
      clear hb3 HB
      go_wp2
      go_ret
      exact ⟨rfl, HE.out⟩
end Go.Proofs.Yteojpnkfnflmbaa
