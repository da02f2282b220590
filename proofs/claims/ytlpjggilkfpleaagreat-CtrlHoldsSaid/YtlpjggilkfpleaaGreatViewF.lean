/-
  Contracts of the view's Changes and Commit over memory, and of what no call made. Conditions: fewer than 32,768 changes, fewer than 2^62 pairs, texts and values of at most 2^47 bytes.
-/
import Derived.Test.YtlpjggilkfpleaaGreatViewE
namespace Go.Proofs.YtlpjggilkfpleaaGreat
open Go.RowKit Go.Maps
set_option maxRecDepth 100000
set_option linter.unusedVariables false

section
variable {w w' : World} {X : Nat → Prop} {v m c : Nat} {S : VS}
theorem ViewAt.valLen (h : ViewAt w X v m c S) : ∀ p ∈ S.puts, p.2.length ≤ 140737488355328 := by
  intro p hp
  obtain ⟨q, hq, hqp⟩ := List.mem_filterMap.1 hp
  obtain ⟨k1, k2, _⟩ := VS.putsF_key hqp
  obtain ⟨f, _, h2⟩ := h.chg
  obtain ⟨u, _, hu⟩ := (h2 q.1).2 _ (h.ok.c.look (show (q.1, q.2) ∈ S.C from hq))
  rw [k2] at hu
  obtain ⟨v, _, A, n, c, _, _, h3, h4, _⟩ := hu
  rw [h4.len]
  exact h3
theorem puts_le (S : VS) : S.puts.length ≤ S.C.length := List.length_filterMap_le _ _
theorem dels_le (S : VS) : S.dels.length ≤ S.C.length := List.length_filterMap_le _ _

set_option maxHeartbeats 1600000 in
theorem vCommit_any (h : ViewAt w X v m c S) (hfew : S.C.length ≤ 32767) (hkeys : ∀ p ∈ S.C, p.1.length ≤ 140737488355328) (hW : S.W.length ≤ 4611686018427387904) :
    Calls Tryz.prog 11 #[.pointer (some ⟨v, 0, none⟩)] w fun e w' => e = .returned (.int .i64 0) ∧ ViewAt w' X v m c S.commit ∧ Touch (fun k => k = m ∨ k = c) w w' := by
  have HE := Lib.hid (vErr_any h)
  have HC := Lib.hid (vChanges_any h hfew hkeys)
  have HH := Lib.hid h
  have HF := Lib.hid (And.intro hfew hW)
  have hm : ∀ n (w : World), (method (n + 1) 80 (.map (some m)) "Write").run Tryz.prog w = .ok (328, .map (some m)) w := fun n w => by kernel_rfl
  clear h hfew hkeys hW
  go_enter Tryz.func11, Tryz.ntmps11
  go_wp2_with fail
  refine HE.out.mono ?_
  rintro e w' ⟨rfl, rfl⟩
  go_wp2_with fail
  refine HC.out.mono ?_
  rintro e w1 ⟨A, n, k, A', n', k', rfl, hnk, hP, hnk', hT, hb⟩
  have hv1 := HH.out.below hb
  obtain ⟨d0, d1, d2, _⟩ := hv1.cells
  have hpn : n ≤ 32767 := by rw [← hP.len, List.length_map]; exact Nat.le_trans (puts_le S) HF.out.1
  have hdn : n' ≤ 32767 := by rw [← hT.len, List.length_map]; exact Nat.le_trans (dels_le S) HF.out.1
  have HWr := Lib.hid (memWrite_any (k := k) (k' := k') hv1.mem hv1.ok.w hv1.xm hv1.lt hP hT (Nat.le_refl _) (by unfold maxLen; omega) (by unfold maxLen; omega) HH.out.valLen (by
    have := HF.out
    have := puts_le S
    unfold maxLen
    omega))
  have HV1 := Lib.hid hv1
  have HB := Lib.hid hb
  clear hnk hP hnk' hT hb hv1 hpn hdn
  go_wp2_with fail
  refine HWr.out.mono ?_
  rintro e w2 ⟨rfl, hm2, ht2⟩
  have hg2 : w1.grownBy w2 (some m) := ⟨ht2.os, ht2.tape, ht2.output, ht2.size, fun k hk hne => ht2.block k hk (fun e => hne (by rw [e]))⟩
  have hv2 := HV1.out.turnM hg2 hm2 HV1.out.ok.written.1
  have HMe := Lib.hid (vMeet_any hv2)
  obtain ⟨w3, hrun, hm3, hg3⟩ := hv2.chg.clear_ Tryz.underlying81 0
  have hv3 : ViewAt w3 X v m c S.commit := hv2.turnC hg3 hm3 List.Pairwise.nil
  obtain ⟨f0, f1, f2, _⟩ := hv2.cells
  have HFIN := Lib.hid (And.intro hv3 (((Touch.of_below HB.out).trans (ht2.mono fun k hk => .inl hk)).grown (F := fun k => k = m ∨ k = c) hg3 (.inr rfl)))
  clear hm2 ht2 hg2 hv2 hm3 hg3 hv3 d0 d1 d2
  go_wp2_with fail
  refine HMe.out.mono ?_
  rintro e w2' ⟨rfl, rfl⟩
  go_wp2_with fail
  go_ret
  exact ⟨rfl, HFIN.out⟩

/-! ### what no call made -/
/-- made says no of u, from w on. -/
def VUn (w : World) (u : Value) : Prop := ∀ w1, Below w.heap.size w w1 → Calls Tryz.prog 47 #[u] w1 fun e w' => e = .returned (.bool false) ∧ w1 = w'
theorem VUn.nil_ (w : World) : VUn w (.pointer none) := fun w1 _ => vMade_nil w1
theorem VUn.zero_ {r : Nat} (h : w.cell? ⟨r, 0, none⟩ = some .nilIface) (hr : r < w.heap.size) : VUn w (.pointer (some ⟨r, 0, none⟩)) := fun w1 hb => vMade_zero ((hb.cell (p := ⟨r, 0, none⟩) hr).trans h)
theorem VUn.later {u : Value} (h : VUn w u) (hb : Below w.heap.size w w') : VUn w' u := fun w2 hb2 => h w2 (hb.trans (hb2.mono hb.size))
variable {u : Value}
theorem vErr_un (h : VUn w u) : Calls Tryz.prog 40 #[u] w fun e w' => e = .returned (.int .i64 2) ∧ w = w' := by
  have HM := Lib.hid (h w (Below.refl _ _))
  clear h
  go_enter Tryz.func40, Tryz.ntmps40
  go_wp2_with fail
  refine HM.out.mono ?_
  rintro e w' ⟨rfl, rfl⟩
  go_wp2
  go_ret
  exact ⟨rfl, rfl⟩
theorem vGet_un (h : VUn w u) (key : Value) : Calls Tryz.prog 95 #[u, key] w fun e w' => e = .returned (.tuple #[.slice none 0 0, .bool false]) ∧ w = w' := by
  have HM := Lib.hid (vErr_un h)
  clear h
  go_enter Tryz.func95, Tryz.ntmps95
  go_wp2_with fail
  refine HM.out.mono ?_
  rintro e w' ⟨rfl, rfl⟩
  go_wp2
  go_ret2
  exact ⟨rfl, rfl⟩
theorem vPut_un (h : VUn w u) (key val : Value) : Calls Tryz.prog 39 #[u, key, val] w fun e w' => e = .returned (.int .i64 2) ∧ w = w' := by
  have HM := Lib.hid (h w (Below.refl _ _))
  clear h
  go_enter Tryz.func39, Tryz.ntmps39
  go_wp2_with fail
  refine HM.out.mono ?_
  rintro e w' ⟨rfl, rfl⟩
  go_wp2
  go_ret
  exact ⟨rfl, rfl⟩
theorem vChanges_un (h : VUn w u) : Calls Tryz.prog 41 #[u] w fun e w' => e = .returned (.tuple #[.slice none 0 0, .slice none 0 0, .int .i64 2]) ∧ w = w' := by
  have HM := Lib.hid (h w (Below.refl _ _))
  clear h
  go_enter Tryz.func41, Tryz.ntmps41
  go_wp2_with fail
  refine HM.out.mono ?_
  rintro e w' ⟨rfl, rfl⟩
  go_wp2
  go_ret3
  exact ⟨rfl, rfl⟩
theorem vCommit_un (h : VUn w u) : Calls Tryz.prog 11 #[u] w fun e w' => e = .returned (.int .i64 2) ∧ w = w' := by
  have HM := Lib.hid (vErr_un h)
  clear h
  go_enter Tryz.func11, Tryz.ntmps11
  go_wp2_with fail
  refine HM.out.mono ?_
  rintro e w' ⟨rfl, rfl⟩
  go_wp2
  go_ret
  exact ⟨rfl, rfl⟩
theorem vAbort_un (h : VUn w u) : Calls Tryz.prog 14 #[u] w fun e w' => e = .returned (.tuple #[]) ∧ w = w' := by
  have HM := Lib.hid (h w (Below.refl _ _))
  clear h
  go_enter Tryz.func14, Tryz.ntmps14
  go_wp2_with fail
  refine HM.out.mono ?_
  rintro e w' ⟨rfl, rfl⟩
  go_wp2
  go_end0
  exact ⟨rfl, rfl⟩
set_option maxHeartbeats 800000 in
theorem vScan_un {p : Option Addr} (h : VUn w (.pointer p)) (key : Value) : Calls Tryz.prog 69 #[.pointer p, key] w fun e w' => e = .returned (.slice none 0 0) ∧ Below w.heap.size w w' := by
  have hX : Below w.heap.size w (w.alloc (.cells #[.pointer p] 31 (0, 0))) := (Below.refl _ _).alloc (Nat.le_refl _) _
  have HM := Lib.hid (vErr_un (h.later hX))
  have HX := Lib.hid hX
  clear h hX
  go_enter Tryz.func69, Tryz.ntmps69
  go_wp2_with fail
  refine HM.out.mono ?_
  rintro e w' ⟨rfl, rfl⟩
  go_wp2
  go_ret
  exact ⟨rfl, HX.out⟩
end

end Go.Proofs.YtlpjggilkfpleaaGreat
