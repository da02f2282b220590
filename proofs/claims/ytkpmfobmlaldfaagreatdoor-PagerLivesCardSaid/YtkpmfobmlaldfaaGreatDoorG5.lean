/-
  The texts Repeat, PageFn7 joined. Conditions: those that each part says at its head.
-/
import Derived.Test.YtkpmfobmlaldfaaGreatDoorG1
import Derived.Lib.MakeNoZero
import Derived.Laws.CopyOwn
import Derived.Laws.BitsLemmas
import Derived.Deep.RegionLaw

/-
  Contract of the statement package's own page of one byte (bytes.Repeat of one byte, 240 times): a new slice of 240 such bytes; nothing that was there is written. No condition.
-/
namespace Go.Proofs.YtkpmfobmlaldfaaGreatDoor
open Go.RowKit
set_option maxRecDepth 100000
set_option linter.unusedVariables false


set_option maxHeartbeats 800000 in
theorem mul_one (w : World) : Calls Tryz.prog 98 #[.int .u64 1, .int .u64 240] w fun e w' => e = .returned (.tuple #[.int .u64 0, .int .u64 240]) ∧ w = w' := by
  go_enter Tryz.func98, Tryz.ntmps98
  go_wp2_with go_in
  go_ret2
  exact ⟨rfl, rfl⟩

/-- The block while it is filled. -/
def RepBlk (w : World) (g k N : Nat) (c : Int) : Prop := ∃ tl : List Value, k + tl.length = N ∧ w.heap[g]? = some (.cells ((reps k c).map (Value.int .u8) ++ tl).toArray 5 (0, 0))

theorem rep_first {w : World} {g : Nat} {cs : Array Value} {c : Int} (hs : 240 ≤ cs.size) (h : w.heap[g]? = some (.cells (splice cs.toList 0 [Value.int .u8 c]).toArray 5 (0, 0))) : RepBlk w g 1 cs.size c :=
  ⟨cs.toList.drop 1, by simp; omega, by rw [h]; simp [splice, reps]⟩
theorem rep_cell {w : World} {g k N : Nat} {c : Int} (h : RepBlk w g k N c) : ∀ j v, ((reps k c).map (Value.int .u8))[j]? = some v → w.cell? ((⟨g, 0, none⟩ : Addr).add j) = some v := by
  obtain ⟨tl, hl, hh⟩ := h
  intro j v hv
  have hj : j < ((reps k c).map (Value.int .u8)).length := by
    rcases Nat.lt_or_ge j ((reps k c).map (Value.int .u8)).length with h' | h'
    · exact h'
    · rw [List.getElem?_eq_none h'] at hv; cases hv
  have ea : Addr.add ⟨g, 0, none⟩ j = ⟨g, j, none⟩ := by unfold Addr.add; split <;> simp_all
  rw [ea, cell_of_row w g j _ _ (0, 0) hh, List.getElem?_toArray, List.getElem?_append_left hj, hv]

theorem rep_src (w : World) (o : Obj) (e : TypeId) (c : Int) : ∀ j v, [Value.int .u8 c][j]? = some v → (((w.alloc (.cells #[.int .u8 c] e)).alloc o).drewN 2).cell? ((⟨w.heap.size, 0, none⟩ : Addr).add j) = some v := by
  intro j v hv
  match j, hv with
  | 0, hv =>
    simp at hv
    subst hv
    have h1 := World.cell?_alloc_lt (w.alloc (.cells #[.int .u8 c] e)) o ⟨w.heap.size, 0, none⟩ (by simp)
    have h2 : ((w.alloc (.cells #[.int .u8 c] e))).cell? ⟨w.heap.size, 0, none⟩ = some (.int .u8 c) := by
      rw [cell_of_row (w.alloc (.cells #[.int .u8 c] e)) w.heap.size 0 #[.int .u8 c] e (0, 0) (heap_alloc_new w _)]
      rfl
    exact h1.trans h2
theorem rep_part {w : World} {g k N m : Nat} {c : Int} (h : RepBlk w g k N c) (hm : m ≤ k) : ∀ j v, ((reps m c).map (Value.int .u8))[j]? = some v → w.cell? ((⟨g, 0, none⟩ : Addr).add j) = some v := by
  intro j v hv
  refine rep_cell h j v ?_
  have hj : j < m := by
    rcases Nat.lt_or_ge j m with h' | h'
    · exact h'
    · rw [List.getElem?_eq_none (by simp [reps]; omega)] at hv; cases hv
  rw [← hv]
  have hjk : j < k := by omega
  simp [reps, hj, hjk]
theorem rep_fit {m k N t : Nat} (h : m ≤ 240 - k) (hN : 240 ≤ N) (ht : k + t = N) (hk : k ≤ 240) : k + m ≤ k + t := by omega
theorem rep_step {w : World} {g k N m : Nat} {c : Int} {tl : List Value} (ht : k + tl.length = N) (hN : 240 ≤ N) (hm : m ≤ 240 - k) (hk : k ≤ 240) (h : w.heap[g]? = some (.cells (splice ((reps k c).map (Value.int .u8) ++ tl) k ((reps m c).map (Value.int .u8))).toArray 5 (0, 0))) : RepBlk w g (k + m) N c := by
  refine ⟨tl.drop m, by rw [List.length_drop]; omega, ?_⟩
  rw [h]
  have hl : ((reps k c).map (Value.int .u8)).length = k := by rw [List.length_map, reps_length]
  have hl2 : ((reps m c).map (Value.int .u8)).length = m := by rw [List.length_map, reps_length]
  have e1 : ((reps k c).map (Value.int .u8) ++ tl).take k = (reps k c).map (Value.int .u8) := by rw [List.take_append_of_le_length (by omega), List.take_of_length_le (by omega)]
  have e2 : ((reps k c).map (Value.int .u8) ++ tl).drop (k + m) = tl.drop m := by
    rw [← List.drop_drop, List.drop_append_of_le_length (Nat.le_of_eq hl.symm), List.drop_of_length_le (Nat.le_of_eq hl), List.nil_append]
  have e3 : (reps k c).map (Value.int .u8) ++ (reps m c).map (Value.int .u8) = (reps (k + m) c).map (Value.int .u8) := by
    rw [← List.map_append]; simp [reps]
  unfold splice
  rw [e1, hl2, e2, ← List.append_assoc, e3]
theorem rep_end (c : Int) {k : Nat} (h1 : 1 ≤ k) (h2 : k < 240) : 1 ≤ k + Nat.min k (240 - k) ∧ k + Nat.min k (240 - k) ≤ 240 ∧ IntKind.i64.wrap ((k : Int) + ((reps (Nat.min k (240 - k)) c).length : Int)) = ((k + Nat.min k (240 - k) : Nat) : Int) ∧
    240 - (intOf (Value.int .i64 ((k + Nat.min k (240 - k) : Nat) : Int))).toNat < 240 - (intOf (Value.int .i64 (k : Int))).toNat := by
  have ha : Nat.min k (240 - k) ≤ 240 - k := Nat.min_le_right _ _
  have hb : 1 ≤ Nat.min k (240 - k) := Nat.le_min.2 ⟨h1, by omega⟩
  rw [reps_length]
  generalize Nat.min k (240 - k) = m at ha hb ⊢
  refine ⟨by omega, by omega, ?_, by simp [intOf]; omega⟩
  rw [IntKind.wrap_i64]
  omega
theorem RepBlk.read {w : World} {g k N : Nat} {c : Int} (h : RepBlk w g k N c) (hc : 0 ≤ c ∧ c < 256) : RB w w.heap.size (some ⟨g, 0, none⟩) k (reps k c) := by
  refine ⟨reps_length k c, reps_bytes k hc, fun hn => ⟨g, 0, rfl, ?_, fun j hj => ?_⟩⟩
  · obtain ⟨tl, hl, hh⟩ := h
    rcases Nat.lt_or_ge g w.heap.size with h' | h'
    · exact h'
    · rw [Array.getElem?_eq_none h'] at hh; cases hh
  · have := rep_cell h j (.int .u8 c) (by simp [reps, hj])
    have ea : Addr.add ⟨g, 0, none⟩ j = ⟨g, j, none⟩ := by unfold Addr.add; split <;> simp_all
    rw [ea] at this
    rw [Nat.zero_add, this, reps_getD hj]

set_option maxRecDepth 100000 in
set_option maxHeartbeats 400000 in
theorem repeat_any (c : Int) (hc : 0 ≤ c ∧ c < 256) (w : World) :
    Calls Tryz.prog 49 #[.slice (some ⟨w.heap.size, 0, none⟩) 1 1, .int .i64 240] (w.alloc (.cells #[.int .u8 c] 5)) fun e w' => ∃ g, e = .returned (.slice (some ⟨g, 0, none⟩) 240 240) ∧ w.heap.size ≤ g ∧ RB w' w'.heap.size (some ⟨g, 0, none⟩) 240 (reps 240 c) ∧ Below w.heap.size w w' := by
  obtain ⟨cs, hrunM, hle, _⟩ := Lib.run_makeNoZero (P := Tryz.prog) (w.alloc (.cells #[.int .u8 c] 5)) #[3] 32 5 Tryz.underlying32 240 (by decide)
  have hcall : (callFunc 99 #[.int .i64 240]).run Tryz.prog (w.alloc (.cells #[.int .u8 c] 5)) = .ok (.value (.slice (some ⟨w.heap.size + 1, 0, none⟩) 240 cs.size)) (((w.alloc (.cells #[.int .u8 c] 5)).alloc (.cells cs 5)).drewN 2) := by
    rw [run_callFunc_extern Tryz.func99 (by kernel_rfl) (by kernel_rfl) (by kernel_rfl) (e := Extern.BytealgMakeNoZero.makeNoZero #[3] #[32]) (by kernel_rfl)]
    have h240 : ((240 : Nat) : Int) = 240 := rfl
    rw [h240] at hrunM
    rw [hrunM]
    simp
    rfl
  clear hrunM
  have i1 : (240 : Int) ≤ (cs.size : Int) := by omega
  have hblk0 : (((w.alloc (.cells #[.int .u8 c] 5)).alloc (.cells cs 5)).drewN 2).heap[w.heap.size + 1]? = some (.cells cs.toList.toArray 5 (0, 0)) := by
    have := heap_alloc_new (w.alloc (.cells #[.int .u8 c] 5)) (.cells cs 5)
    simpa using this
  have HBLK0 := Lib.hid hblk0
  have hb0 : Below w.heap.size w (((w.alloc (.cells #[.int .u8 c] 5)).alloc (.cells cs 5)).drewN 2) := ((((Below.refl w.heap.size w).alloc (Nat.le_refl _) _).alloc (by simp) _).drew).drew
  have HB0 := Lib.hid hb0
  have HFIT := Lib.hid (show 0 + [Value.int .u8 c].length ≤ cs.toList.length by simp; omega)
  have HONE := Lib.hid (show ∀ v ∈ [Value.int .u8 c], v.oneCell' = true by intro v hv; obtain rfl := List.mem_singleton.1 hv; rfl)
  have HLE := Lib.hid (Nat.le_succ w.heap.size)
  have HSRC := Lib.hid (rep_src w (.cells cs 5) 5 c)
  clear hblk0 hb0
  go_enter Tryz.func49, Tryz.ntmps49
  go_wp2_with (first
    | (go_at_call 98; refine (mul_one _).mono ?_; rintro e w' ⟨rfl, rfl⟩)
    | (with_reducible refine wpList_copy_splice rfl (.tmp 58) (.tmp 59) 32 32 rfl 5 Tryz.underlying32 size_u8' _ _ _ _ _ _ rfl rfl (w.heap.size + 1) 0 cs.toList 5 HBLK0.out [.int .u8 c] rfl (fun _ => ⟨rfl, _, rfl, HSRC.out⟩) HFIT.out HONE.out w.heap.size w HB0.out HLE.out ?_; intro w2 hblk2 hb2))
  have HR := Lib.hid (rep_first hle hblk2.out)
  clear hblk2 HBLK0 HB0 HSRC
  have HGG := Lib.hid (show w.heap.size ≤ w.heap.size + 1 from Nat.le_succ _)
  generalize w.heap.size + 1 = g at HR HGG ⊢
  go_loopw [10, 11] (fun bp ch wr => ∃ k : Nat, 1 ≤ k ∧ k ≤ 240 ∧ bp = .int .i64 k ∧ Hid (RepBlk wr g k cs.size c) ∧ Below w.heap.size w wr) (fun bp _ _ => 240 - (intOf bp).toNat)
  case atStart => exact ⟨1, by decide, by decide, rfl, HR, hb2⟩
  case round =>
    obtain ⟨k, hk1, hk, rfl, hrk, hbk⟩ := hrel
    clear HR hcall i1 hb2
    by_cases hlt : k < 240
    · obtain ⟨tl, htl, hheap⟩ := hrk.out
      have hrd : RepBlk wr.drew g k cs.size c := ⟨tl, htl, hheap⟩
      have hhd : wr.drew.heap[g]? = some (.cells ((reps k c).map (Value.int .u8) ++ tl).toArray 5 (0, 0)) := hheap
      have HH := Lib.hid hhd
      clear hhd
      have HTL := Lib.hid htl
      have HS := Lib.hid (rep_part hrd (Nat.min_le_left k (240 - k)))
      clear hrd
      have HN := Lib.hid (show ((reps (Nat.min k (240 - k)) c).map (Value.int .u8)).length = Nat.min k (240 - k) by rw [List.length_map, reps_length])
      have HFIT := Lib.hid (show k + ((reps (Nat.min k (240 - k)) c).map (Value.int .u8)).length ≤ ((reps k c).map (Value.int .u8) ++ tl).length by
        have h1 : Nat.min k (240 - k) ≤ 240 - k := Nat.min_le_right k (240 - k)
        rw [List.length_append, List.length_map, List.length_map, reps_length, reps_length]
        exact rep_fit h1 hle htl (by omega))
      have HONE := Lib.hid (oneCell_bytes (reps (Nat.min k (240 - k)) c))
      have HB := Lib.hid hbk.drew
      have HIF := Lib.hid (show (if 240 = k then some (⟨g, 0, none⟩ : Addr) else some ⟨g, k, none⟩) = some ⟨g, k, none⟩ from if_neg (by omega))
      have hk' : (k : Int) ≤ 240 := by omega
      have hd : decide ((k : Int) < 240) = true := by simp; omega
      clear hheap htl hbk
      go_wp2_with fail
      go_region_law (refine step_copy_splice rfl (.tmp 70) (.tmp 73) 32 32 rfl 5 Tryz.underlying32 size_u8' (if 240 = k then some ⟨g, 0, none⟩ else some ⟨g, k, none⟩) (some ⟨g, 0, none⟩) (240 - k) (240 - k) k 240 (by go_simp) (by go_simp) g k ((reps k c).map (Value.int .u8) ++ tl) 5 HH.out ((reps (Nat.min k (240 - k)) c).map (Value.int .u8)) HN.out (fun _ => ⟨HIF.out, _, rfl, HS.out⟩) HFIT.out HONE.out w.heap.size w HB.out HGG.out ?_; intro w4 hblk4 hb4)
      have hstep := Lib.hid (rep_step (m := Nat.min k (240 - k)) HTL.out hle (by exact Nat.min_le_right _ _) hk hblk4.out)
      clear hblk4 HH HS HFIT HONE HB HIF HTL hrk
      go_wp2_with fail
      all_goals first
        | (exfalso; omega)
        | (obtain ⟨e1, e2, e3, e4⟩ := rep_end c hk1 hlt
           refine ⟨⟨k + Nat.min k (240 - k), e1, e2, e3, hstep, hb4⟩, ?_⟩
           rw [e3]
           exact e4)
        | (obtain ⟨e1, e2, e3, e4⟩ := rep_end c hk1 hlt
           refine ⟨⟨k + Nat.min k (240 - k), e1, e2, e3, hstep⟩, ?_⟩
           rw [e3]
           exact e4)
    · obtain rfl : k = 240 := by omega
      have hend := Lib.hid (hrk.out.read hc)
      have hd : decide (((240 : Nat) : Int) < 240) = false := by decide
      clear hrk
      go_wp2
      go_ret
      exact ⟨_, rfl, HGG.out, hend.out, hbk⟩

end Go.Proofs.YtkpmfobmlaldfaaGreatDoor

/-
  Contract of the statement package's own page of one byte. Condition: it is a byte.
-/
namespace Go.Proofs.YtkpmfobmlaldfaaGreatDoor
open Go.RowKit
set_option maxRecDepth 100000
set_option linter.unusedVariables false

/-- The statement package's own page of one byte. -/
theorem page_any (c : Int) (hc : 0 ≤ c ∧ c < 256) (w : World) :
    Calls Tryz.prog 13 #[.int .u8 c] w fun e w' => ∃ g, e = .returned (.slice (some ⟨g, 0, none⟩) 240 240) ∧ w.heap.size ≤ g ∧ RB w' w'.heap.size (some ⟨g, 0, none⟩) 240 (reps 240 c) ∧ Below w.heap.size w w' := by
  go_enter Tryz.func13, Tryz.ntmps13
  go_wp2_with fail
  refine (repeat_any c hc w).mono ?_
  rintro e w' ⟨g, rfl, h1, h2, h3⟩
  go_wp2
  go_ret
  exact ⟨g, rfl, h1, h2, h3⟩

end Go.Proofs.YtkpmfobmlaldfaaGreatDoor
