/-
  The texts PageFn, RedoLaw, RedoAw, RedoNo, DiskDevB, Some joined. Conditions: those that each part says at its head.
-/
import Derived.Lib.MakeNoZero
import Derived.Laws.CopyOwn
import Derived.Laws.BitsLemmas
import Derived.Deep.RegionLaw
import Derived.Deep.RegionHeld3
import Derived.StillTailTactics
import Derived.Test.YtkmlmbakgmafjaaDoorG1
import Derived.Test.YtkmlmbakgmafjaaDoorG4
import Derived.Test.YtkmlmbakgmafjaaDoorG2

/-
  Contract of the statement package's own page of one byte (bytes.Repeat of one byte, 240 times): a new slice of 240 such bytes; nothing that was there is written. No condition.
-/
namespace Go.Proofs.YtkmlmbakgmafjaaDoor
open Go.RowKit
set_option maxRecDepth 100000
set_option linter.unusedVariables false


set_option maxHeartbeats 800000 in
theorem mul_one (w : World) : Calls Tryd.prog 93 #[.int .u64 1, .int .u64 240] w fun e w' => e = .returned (.tuple #[.int .u64 0, .int .u64 240]) ∧ w = w' := by
  go_enter Tryd.func93, Tryd.ntmps93
  go_wp2_with go_in
  go_ret2
  exact ⟨rfl, rfl⟩

/-- The block while it is filled. -/
def RepBlk (w : World) (g k N : Nat) (c : Int) : Prop := ∃ tl : List Value, k + tl.length = N ∧ w.heap[g]? = some (.cells ((reps k c).map (Value.int .u8) ++ tl).toArray 5 (0, 0))

theorem rep_first {w : World} {g : Nat} {cs : Array Value} {c : Int} (hs : 240 ≤ cs.size) (h : w.heap[g]? = some (.cells (splice cs.toList 0 [Value.int .u8 c]).toArray 5 (0, 0))) : RepBlk w g 1 cs.size c :=
  ⟨cs.toList.drop 1, by simp; omega, by rw [h]; simp [splice, reps]⟩
theorem rep_cell {w : World} {g k N : Nat} {c : Int} (h : RepBlk w g k N c) : ∀ j v, ((reps k c).map (Value.int .u8))[j]? = some v → w.cell? ((⟨g, 0, none⟩ : Addr).add j) = some v := by
  obtain ⟨tl, hl, hh⟩ := h
  intro j v hv
  have hj : j < ((reps k c).map (Value.int .u8)).length := by
    rcases Nat.lt_or_ge j ((reps k c).map (Value.int .u8)).length with h' | h'
    · exact h'
    · rw [List.getElem?_eq_none h'] at hv; cases hv
  have ea : Addr.add ⟨g, 0, none⟩ j = ⟨g, j, none⟩ := by unfold Addr.add; split <;> simp_all
  rw [ea, cell_of_row w g j _ _ (0, 0) hh, List.getElem?_toArray, List.getElem?_append_left hj, hv]

theorem rep_src (w : World) (o : Obj) (e : TypeId) (c : Int) : ∀ j v, [Value.int .u8 c][j]? = some v → (((w.alloc (.cells #[.int .u8 c] e)).alloc o).drewN 2).cell? ((⟨w.heap.size, 0, none⟩ : Addr).add j) = some v := by
  intro j v hv
  match j, hv with
  | 0, hv =>
    simp at hv
    subst hv
    have h1 := World.cell?_alloc_lt (w.alloc (.cells #[.int .u8 c] e)) o ⟨w.heap.size, 0, none⟩ (by simp)
    have h2 : ((w.alloc (.cells #[.int .u8 c] e))).cell? ⟨w.heap.size, 0, none⟩ = some (.int .u8 c) := by
      rw [cell_of_row (w.alloc (.cells #[.int .u8 c] e)) w.heap.size 0 #[.int .u8 c] e (0, 0) (heap_alloc_new w _)]
      rfl
    exact h1.trans h2
theorem rep_part {w : World} {g k N m : Nat} {c : Int} (h : RepBlk w g k N c) (hm : m ≤ k) : ∀ j v, ((reps m c).map (Value.int .u8))[j]? = some v → w.cell? ((⟨g, 0, none⟩ : Addr).add j) = some v := by
  intro j v hv
  refine rep_cell h j v ?_
  have hj : j < m := by
    rcases Nat.lt_or_ge j m with h' | h'
    · exact h'
    · rw [List.getElem?_eq_none (by simp [reps]; omega)] at hv; cases hv
  rw [← hv]
  have hjk : j < k := by omega
  simp [reps, hj, hjk]
theorem rep_fit {m k N t : Nat} (h : m ≤ 240 - k) (hN : 240 ≤ N) (ht : k + t = N) (hk : k ≤ 240) : k + m ≤ k + t := by omega
theorem rep_step {w : World} {g k N m : Nat} {c : Int} {tl : List Value} (ht : k + tl.length = N) (hN : 240 ≤ N) (hm : m ≤ 240 - k) (hk : k ≤ 240) (h : w.heap[g]? = some (.cells (splice ((reps k c).map (Value.int .u8) ++ tl) k ((reps m c).map (Value.int .u8))).toArray 5 (0, 0))) : RepBlk w g (k + m) N c := by
  refine ⟨tl.drop m, by rw [List.length_drop]; omega, ?_⟩
  rw [h]
  have hl : ((reps k c).map (Value.int .u8)).length = k := by rw [List.length_map, reps_length]
  have hl2 : ((reps m c).map (Value.int .u8)).length = m := by rw [List.length_map, reps_length]
  have e1 : ((reps k c).map (Value.int .u8) ++ tl).take k = (reps k c).map (Value.int .u8) := by rw [List.take_append_of_le_length (by omega), List.take_of_length_le (by omega)]
  have e2 : ((reps k c).map (Value.int .u8) ++ tl).drop (k + m) = tl.drop m := by
    rw [← List.drop_drop, List.drop_append_of_le_length (Nat.le_of_eq hl.symm), List.drop_of_length_le (Nat.le_of_eq hl), List.nil_append]
  have e3 : (reps k c).map (Value.int .u8) ++ (reps m c).map (Value.int .u8) = (reps (k + m) c).map (Value.int .u8) := by
    rw [← List.map_append]; simp [reps]
  unfold splice
  rw [e1, hl2, e2, ← List.append_assoc, e3]
theorem rep_end (c : Int) {k : Nat} (h1 : 1 ≤ k) (h2 : k < 240) : 1 ≤ k + Nat.min k (240 - k) ∧ k + Nat.min k (240 - k) ≤ 240 ∧ IntKind.i64.wrap ((k : Int) + ((reps (Nat.min k (240 - k)) c).length : Int)) = ((k + Nat.min k (240 - k) : Nat) : Int) ∧
    240 - (intOf (Value.int .i64 ((k + Nat.min k (240 - k) : Nat) : Int))).toNat < 240 - (intOf (Value.int .i64 (k : Int))).toNat := by
  have ha : Nat.min k (240 - k) ≤ 240 - k := Nat.min_le_right _ _
  have hb : 1 ≤ Nat.min k (240 - k) := Nat.le_min.2 ⟨h1, by omega⟩
  rw [reps_length]
  generalize Nat.min k (240 - k) = m at ha hb ⊢
  refine ⟨by omega, by omega, ?_, by simp [intOf]; omega⟩
  rw [IntKind.wrap_i64]
  omega
theorem RepBlk.read {w : World} {g k N : Nat} {c : Int} (h : RepBlk w g k N c) (hc : 0 ≤ c ∧ c < 256) : RB w w.heap.size (some ⟨g, 0, none⟩) k (reps k c) := by
  refine ⟨reps_length k c, reps_bytes k hc, fun hn => ⟨g, 0, rfl, ?_, fun j hj => ?_⟩⟩
  · obtain ⟨tl, hl, hh⟩ := h
    rcases Nat.lt_or_ge g w.heap.size with h' | h'
    · exact h'
    · rw [Array.getElem?_eq_none h'] at hh; cases hh
  · have := rep_cell h j (.int .u8 c) (by simp [reps, hj])
    have ea : Addr.add ⟨g, 0, none⟩ j = ⟨g, j, none⟩ := by unfold Addr.add; split <;> simp_all
    rw [ea] at this
    rw [Nat.zero_add, this, reps_getD hj]

set_option maxRecDepth 100000 in
set_option maxHeartbeats 400000 in
theorem repeat_any (c : Int) (hc : 0 ≤ c ∧ c < 256) (w : World) :
    Calls Tryd.prog 75 #[.slice (some ⟨w.heap.size, 0, none⟩) 1 1, .int .i64 240] (w.alloc (.cells #[.int .u8 c] 5)) fun e w' => ∃ g, e = .returned (.slice (some ⟨g, 0, none⟩) 240 240) ∧ w.heap.size ≤ g ∧ RB w' w'.heap.size (some ⟨g, 0, none⟩) 240 (reps 240 c) ∧ Below w.heap.size w w' := by
  obtain ⟨cs, hrunM, hle, _⟩ := Lib.run_makeNoZero (P := Tryd.prog) (w.alloc (.cells #[.int .u8 c] 5)) #[3] 51 5 Tryd.underlying51 240 (by decide)
  have hcall : (callFunc 94 #[.int .i64 240]).run Tryd.prog (w.alloc (.cells #[.int .u8 c] 5)) = .ok (.value (.slice (some ⟨w.heap.size + 1, 0, none⟩) 240 cs.size)) (((w.alloc (.cells #[.int .u8 c] 5)).alloc (.cells cs 5)).drewN 2) := by
    rw [run_callFunc_extern Tryd.func94 (by kernel_rfl) (by kernel_rfl) (by kernel_rfl) (e := Extern.BytealgMakeNoZero.makeNoZero #[3] #[51]) (by kernel_rfl)]
    have h240 : ((240 : Nat) : Int) = 240 := rfl
    rw [h240] at hrunM
    rw [hrunM]
    simp
    rfl
  clear hrunM
  have i1 : (240 : Int) ≤ (cs.size : Int) := by omega
  have hblk0 : (((w.alloc (.cells #[.int .u8 c] 5)).alloc (.cells cs 5)).drewN 2).heap[w.heap.size + 1]? = some (.cells cs.toList.toArray 5 (0, 0)) := by
    have := heap_alloc_new (w.alloc (.cells #[.int .u8 c] 5)) (.cells cs 5)
    simpa using this
  have HBLK0 := Lib.hid hblk0
  have hb0 : Below w.heap.size w (((w.alloc (.cells #[.int .u8 c] 5)).alloc (.cells cs 5)).drewN 2) := ((((Below.refl w.heap.size w).alloc (Nat.le_refl _) _).alloc (by simp) _).drew).drew
  have HB0 := Lib.hid hb0
  have HFIT := Lib.hid (show 0 + [Value.int .u8 c].length ≤ cs.toList.length by simp; omega)
  have HONE := Lib.hid (show ∀ v ∈ [Value.int .u8 c], v.oneCell' = true by intro v hv; obtain rfl := List.mem_singleton.1 hv; rfl)
  have HLE := Lib.hid (Nat.le_succ w.heap.size)
  have HSRC := Lib.hid (rep_src w (.cells cs 5) 5 c)
  clear hblk0 hb0
  go_enter Tryd.func75, Tryd.ntmps75
  go_wp2_with (first
    | (go_at_call 93; refine (mul_one _).mono ?_; rintro e w' ⟨rfl, rfl⟩)
    | (with_reducible refine wpList_copy_splice rfl (.tmp 58) (.tmp 59) 51 51 rfl 5 Tryd.underlying51 size_u8' _ _ _ _ _ _ rfl rfl (w.heap.size + 1) 0 cs.toList 5 HBLK0.out [.int .u8 c] rfl (fun _ => ⟨rfl, _, rfl, HSRC.out⟩) HFIT.out HONE.out w.heap.size w HB0.out HLE.out ?_; intro w2 hblk2 hb2))
  have HR := Lib.hid (rep_first hle hblk2.out)
  clear hblk2 HBLK0 HB0 HSRC
  have HGG := Lib.hid (show w.heap.size ≤ w.heap.size + 1 from Nat.le_succ _)
  generalize w.heap.size + 1 = g at HR HGG ⊢
  go_loopw [10, 11] (fun bp ch wr => ∃ k : Nat, 1 ≤ k ∧ k ≤ 240 ∧ bp = .int .i64 k ∧ Hid (RepBlk wr g k cs.size c) ∧ Below w.heap.size w wr) (fun bp _ _ => 240 - (intOf bp).toNat)
  case atStart => exact ⟨1, by decide, by decide, rfl, HR, hb2⟩
  case round =>
    obtain ⟨k, hk1, hk, rfl, hrk, hbk⟩ := hrel
    clear HR hcall i1 hb2
    by_cases hlt : k < 240
    · obtain ⟨tl, htl, hheap⟩ := hrk.out
      have hrd : RepBlk wr.drew g k cs.size c := ⟨tl, htl, hheap⟩
      have hhd : wr.drew.heap[g]? = some (.cells ((reps k c).map (Value.int .u8) ++ tl).toArray 5 (0, 0)) := hheap
      have HH := Lib.hid hhd
      clear hhd
      have HTL := Lib.hid htl
      have HS := Lib.hid (rep_part hrd (Nat.min_le_left k (240 - k)))
      clear hrd
      have HN := Lib.hid (show ((reps (Nat.min k (240 - k)) c).map (Value.int .u8)).length = Nat.min k (240 - k) by rw [List.length_map, reps_length])
      have HFIT := Lib.hid (show k + ((reps (Nat.min k (240 - k)) c).map (Value.int .u8)).length ≤ ((reps k c).map (Value.int .u8) ++ tl).length by
        have h1 : Nat.min k (240 - k) ≤ 240 - k := Nat.min_le_right k (240 - k)
        rw [List.length_append, List.length_map, List.length_map, reps_length, reps_length]
        exact rep_fit h1 hle htl (by omega))
      have HONE := Lib.hid (oneCell_bytes (reps (Nat.min k (240 - k)) c))
      have HB := Lib.hid hbk.drew
      have HIF := Lib.hid (show (if 240 = k then some (⟨g, 0, none⟩ : Addr) else some ⟨g, k, none⟩) = some ⟨g, k, none⟩ from if_neg (by omega))
      have hk' : (k : Int) ≤ 240 := by omega
      have hd : decide ((k : Int) < 240) = true := by simp; omega
      clear hheap htl hbk
      go_wp2_with fail
      go_region_law (refine step_copy_splice rfl (.tmp 70) (.tmp 73) 51 51 rfl 5 Tryd.underlying51 size_u8' (if 240 = k then some ⟨g, 0, none⟩ else some ⟨g, k, none⟩) (some ⟨g, 0, none⟩) (240 - k) (240 - k) k 240 (by go_simp) (by go_simp) g k ((reps k c).map (Value.int .u8) ++ tl) 5 HH.out ((reps (Nat.min k (240 - k)) c).map (Value.int .u8)) HN.out (fun _ => ⟨HIF.out, _, rfl, HS.out⟩) HFIT.out HONE.out w.heap.size w HB.out HGG.out ?_; intro w4 hblk4 hb4)
      have hstep := Lib.hid (rep_step (m := Nat.min k (240 - k)) HTL.out hle (by exact Nat.min_le_right _ _) hk hblk4.out)
      clear hblk4 HH HS HFIT HONE HB HIF HTL hrk
      go_wp2_with fail
      all_goals first
        | (exfalso; omega)
        | (obtain ⟨e1, e2, e3, e4⟩ := rep_end c hk1 hlt
           refine ⟨⟨k + Nat.min k (240 - k), e1, e2, e3, hstep, hb4⟩, ?_⟩
           rw [e3]
           exact e4)
        | (obtain ⟨e1, e2, e3, e4⟩ := rep_end c hk1 hlt
           refine ⟨⟨k + Nat.min k (240 - k), e1, e2, e3, hstep⟩, ?_⟩
           rw [e3]
           exact e4)
    · obtain rfl : k = 240 := by omega
      have hend := Lib.hid (hrk.out.read hc)
      have hd : decide (((240 : Nat) : Int) < 240) = false := by decide
      clear hrk
      go_wp2
      go_ret
      exact ⟨_, rfl, HGG.out, hend.out, hbk⟩

/-- The statement package's own page of one byte. -/
theorem page_any (c : Int) (hc : 0 ≤ c ∧ c < 256) (w : World) :
    Calls Tryd.prog 40 #[.int .u8 c] w fun e w' => ∃ g, e = .returned (.slice (some ⟨g, 0, none⟩) 240 240) ∧ w.heap.size ≤ g ∧ RB w' w'.heap.size (some ⟨g, 0, none⟩) 240 (reps 240 c) ∧ Below w.heap.size w w' := by
  go_enter Tryd.func40, Tryd.ntmps40
  go_wp2_with fail
  refine (repeat_any c hc w).mono ?_
  rintro e w' ⟨g, rfl, h1, h2, h3⟩
  go_wp2
  go_ret
  exact ⟨g, rfl, h1, h2, h3⟩

end Go.Proofs.YtkmlmbakgmafjaaDoor

/-
  A law's own disk and log, worked on call by call, over any disk that answers as it is to. Conditions: those of the contracts; the table that crc.Step reads holds what the program's text lays in it when the law begins.
-/
namespace Go.Proofs.YtkmlmbakgmafjaaDoor
open Go.RowKit
set_option maxRecDepth 100000
set_option linter.unusedVariables false

/-- In w the law's disk S lies at p in blocks of the law's own, F; what was there when the law began (w0) stands, the table among it. -/
structure LawD (D : World → (Nat → Prop) → Addr → DS → Prop) (w0 w : World) (F : Nat → Prop) (p : Addr) (S : DS) : Prop where
  d : D w F p S
  out : ∀ k, F k → w0.heap.size ≤ k
  bel : Below w0.heap.size w0 w
  tab : Tab w0 ∧ 1 < w0.heap.size
/-- .. and a log of it at q. -/
structure LawL (D : World → (Nat → Prop) → Addr → DS → Prop) (w0 w : World) (F : Nat → Prop) (p : Addr) (S : DS) (q : Nat) (seq : Int) : Prop extends LawD D w0 w F p S where
  log : PLog w q p seq
  qF : ¬ F q
  q0 : w0.heap.size ≤ q

section
variable {D : World → (Nat → Prop) → Addr → DS → Prop} {w0 w w' : World} {F F' : Nat → Prop} {p : Addr} {S S' : DS} {q : Nat} {seq : Int}

theorem LawD.tabF (h : LawD D w0 w F p S) : TabF w F := ⟨h.tab.1.below h.bel h.tab.2, Nat.lt_of_lt_of_le h.tab.2 h.bel.size, fun hf => by have := h.out _ hf; have := h.tab.2; omega⟩
theorem LawD.lt (api : DiskApi D) (h : LawD D w0 w F p S) : ∀ k, F k → k < w.heap.size := api.lt w F p S h.d
theorem LawD.later (api : DiskApi D) (h : LawD D w0 w F p S) (hb : Below w.heap.size w w') : LawD D w0 w' F p S := ⟨api.below h.d hb, h.out, h.bel.trans (hb.mono h.bel.size), h.tab⟩
theorem LawD.next (h : LawD D w0 w F p S) (hd : D w' F' p S') (ht : Touch F w w') (hF : ∀ k, F' k → F k ∨ w.heap.size ≤ k) : LawD D w0 w' F' p S' :=
  ⟨hd, fun k hk => by
    rcases hF k hk with a | a
    · exact h.out k a
    · exact Nat.le_trans h.bel.size a, h.bel.trans (ht.below h.out h.bel.size), h.tab⟩
theorem LawL.later (api : DiskApi D) (h : LawL D w0 w F p S q seq) (hb : Below w.heap.size w w') : LawL D w0 w' F p S q seq := ⟨h.toLawD.later api hb, h.log.below hb, h.qF, h.q0⟩
theorem LawL.next (h : LawL D w0 w F p S q seq) (hd : D w' F' p S') (ht : Touch F w w') (hF : ∀ k, F' k → F k ∨ w.heap.size ≤ k) : LawL D w0 w' F' p S' q seq :=
  ⟨h.toLawD.next hd ht hF, h.log.keep (ht.block q h.log.cells.2.2.2 h.qF), fun hf => by
    rcases hF q hf with a | a
    · exact h.qF a
    · have := h.log.cells.2.2.2; omega, h.q0⟩

theorem law_new (api : DiskApi D) {n : Int} (h1 : 3 ≤ n) (h2 : n ≤ 65536) (ht : Tab w0 ∧ 1 < w0.heap.size) (hb : Below w0.heap.size w0 w) : Calls Tryd.prog 7 #[.int .i64 n] w fun e w' => ∃ (p : Addr) (F : Nat → Prop), e = .returned (.tuple #[.pointer (some p), .int .i64 0]) ∧ LawD D w0 w' F p (DS.new n.toNat) ∧ Below w.heap.size w w' := by
  refine (api.new n w h1 h2).mono ?_
  rintro e w' ⟨p, F, rfl, hd, hb', hF⟩
  exact ⟨p, F, rfl, ⟨hd, fun k hk => Nat.le_trans hb.size (hF k hk), hb.trans (hb'.mono hb.size), ht⟩, hb'⟩
theorem law_format (api : DiskApi D) (h : LawD D w0 w F p S) (hw : S.writes ≤ 9223372036854775800) : Calls Tryd.prog 10 #[.pointer (some p)] w fun e w' => e = .returned (.int .i64 (markS S 0 1).1) ∧ ∃ F', LawD D w0 w' F' p (markS S 0 1).2 ∧ Touch F w w' ∧ ∀ k, F' k → F k ∨ w.heap.size ≤ k := by
  refine (format_any api h.d h.tabF hw).mono ?_
  rintro e w' ⟨rfl, F', d, t, n⟩
  exact ⟨rfl, F', h.next d t n, t, n⟩
theorem law_open (api : DiskApi D) (h : LawD D w0 w F p S) (hw : S.writes ≤ 9223372036854700000) : Calls Tryd.prog 13 #[.pointer (some p)] w fun e w' =>
    ((openS S).1 ≠ 0 ∧ e = .returned (.tuple #[.pointer none, .int .i64 (openS S).1]) ∧ ∃ F', LawD D w0 w' F' p (openS S).2.2 ∧ Touch F w w' ∧ ∀ k, F' k → F k ∨ w.heap.size ≤ k) ∨
    ((openS S).1 = 0 ∧ ∃ q F', e = .returned (.tuple #[.pointer (some ⟨q, 0, none⟩), .int .i64 0]) ∧ w.heap.size ≤ q ∧ LawL D w0 w' F' p (openS S).2.2 q (openS S).2.1 ∧ Touch F w w' ∧ ∀ k, F' k → F k ∨ w.heap.size ≤ k) := by
  refine (open_any api h.d h.tabF hw).mono ?_
  rintro e w' (⟨h1, rfl, F', d, t, n⟩ | ⟨h1, q, F', rfl, hq, hl, hqF, d, t, n⟩)
  · exact .inl ⟨h1, rfl, F', h.next d t n, t, n⟩
  · exact .inr ⟨h1, q, F', rfl, hq, ⟨h.next d t n, hl, hqF, Nat.le_trans h.bel.size hq⟩, t, n⟩
/-- Open where it can't fail. -/
theorem law_open_ok (api : DiskApi D) (h : LawD D w0 w F p S) (hw : S.writes ≤ 9223372036854700000) (h0 : (openS S).1 = 0) : Calls Tryd.prog 13 #[.pointer (some p)] w fun e w' =>
    ∃ q F', e = .returned (.tuple #[.pointer (some ⟨q, 0, none⟩), .int .i64 0]) ∧ w.heap.size ≤ q ∧ LawL D w0 w' F' p (openS S).2.2 q (openS S).2.1 ∧ Touch F w w' ∧ ∀ k, F' k → F k ∨ w.heap.size ≤ k := by
  refine (law_open api h hw).mono ?_
  rintro e w' (⟨h1, _⟩ | ⟨_, h2⟩)
  · exact absurd h0 h1
  · exact h2
/-- Open, whatever it answers. -/
theorem law_open_some (api : DiskApi D) (h : LawD D w0 w F p S) (hw : S.writes ≤ 9223372036854700000) : Calls Tryd.prog 13 #[.pointer (some p)] w fun e w' =>
    ∃ v F', e = .returned (.tuple #[v, .int .i64 (openS S).1]) ∧ LawD D w0 w' F' p (openS S).2.2 ∧ Touch F w w' ∧ ∀ k, F' k → F k ∨ w.heap.size ≤ k := by
  refine (law_open api h hw).mono ?_
  rintro e w' (⟨h1, rfl, F', d, t, n⟩ | ⟨h1, q, F', rfl, _, d, t, n⟩)
  · exact ⟨_, F', rfl, d, t, n⟩
  · exact ⟨_, F', by rw [h1], d.toLawD, t, n⟩
theorem law_commit (api : DiskApi D) (h : LawL D w0 w F p S q seq) {A : Option Addr} {n c : Nat} {l : List (Int × List Int)} (hl : RImgs w (orAt F q) A n l) (hby : ∀ y ∈ l, AllBytes y.2) (hin : ∀ y ∈ l, -9223372036854775808 ≤ y.1 ∧ y.1 ≤ 9223372036854775807) (hn : n ≤ 65536) (hs : 0 ≤ seq ∧ seq < 4611686018427387904) (hw : S.writes ≤ 9223372036854500000) :
    Calls Tryd.prog 25 #[.pointer (some ⟨q, 0, none⟩), .slice A n c] w fun e w' => e = .returned (.int .i64 (commitS S seq l).1) ∧ ∃ F', LawL D w0 w' F' p (commitS S seq l).2.2 q (commitS S seq l).2.1 ∧ Touch (orAt F q) w w' ∧ ∀ k, F' k → F k ∨ w.heap.size ≤ k := by
  refine (commit_any (c := c) api h.d h.log h.qF h.tabF hl hby hin hn hs hw).mono ?_
  rintro e w' ⟨rfl, F', d, hlog, hqF, t, n⟩
  refine ⟨rfl, F', ⟨⟨d, fun k hk => ?_, h.bel.trans (t.below (fun k hk => ?_) h.bel.size), h.tab⟩, hlog, hqF, h.q0⟩, t, n⟩
  · rcases n k hk with a | a
    · exact h.out k a
    · exact Nat.le_trans h.bel.size a
  · rcases hk with a | rfl
    · exact h.out k a
    · exact h.q0
theorem law_load (api : DiskApi D) (h : LawL D w0 w F p S q seq) (pg : Int) (hpg : -9223372036854775808 ≤ pg ∧ pg ≤ 9223372036854775807) : Calls Tryd.prog 22 #[.pointer (some ⟨q, 0, none⟩), .int .i64 pg] w fun e w' => ∃ A n c, e = .returned (.tuple #[.slice A n c, .int .i64 (loadS S pg).2]) ∧ n ≤ c ∧ RB w' w'.heap.size A n (loadS S pg).1 ∧ LawL D w0 w' F p S q seq ∧ Below w.heap.size w w' := by
  refine (load_any api h.d h.log h.tabF pg hpg).mono ?_
  rintro e w' ⟨A, n, c, rfl, hc, hr, hb⟩
  exact ⟨A, n, c, rfl, hc, hr, h.later api hb, hb⟩
theorem law_pages (api : DiskApi D) (h : LawL D w0 w F p S q seq) : Calls Tryd.prog 33 #[.pointer (some ⟨q, 0, none⟩)] w fun e w' => e = .returned (.int .i64 (pagesOf S.n)) ∧ w' = w := pages_same api h.d h.log
theorem law_seq (h : LawL D w0 w F p S q seq) : Calls Tryd.prog 15 #[.pointer (some ⟨q, 0, none⟩)] w fun e w' => e = .returned (.int .i64 seq) ∧ w' = w := (seq_any h.log).mono fun e w' h => ⟨h.1, h.2.symm⟩
theorem law_writes (api : DiskApi D) (h : LawD D w0 w F p S) : Calls Tryd.prog 16 #[.pointer (some p)] w fun e w' => e = .returned (.int .i64 (S.writes : Int)) ∧ w' = w := api.writesSame w F p S h.d
theorem law_down (api : DiskApi D) (h : LawD D w0 w F p S) : Calls Tryd.prog 17 #[.pointer (some p)] w fun e w' => e = .returned (.bool S.down) ∧ w' = w := api.downSame w F p S h.d
theorem law_arm (api : DiskApi D) (h : LawD D w0 w F p S) (i : Int) (hi : -9223372036854775808 ≤ i ∧ i ≤ 9223372036854775807) : Calls Tryd.prog 18 #[.pointer (some p), .int .i64 i] w fun e w' => e = .returned (.tuple #[]) ∧ ∃ F' : Nat → Prop, D w' F' p (S.fuse i) ∧ Touch F w w' ∧ ∀ k, F' k → F k ∨ w.heap.size ≤ k := by
  refine (api.arm i w F p S h.d hi).mono ?_
  rintro e w' ⟨rfl, F', hd, ht, hF⟩
  exact ⟨rfl, F', hd, ht, hF⟩
theorem law_crash (api : DiskApi D) (h : LawD D w0 w F p S) {A : Option Addr} {n c B : Nat} {l : List Int} (hr : RI w B A n l) (hc : n ≤ c) (hn : n ≤ maxLen) (hA : 0 < n → ∀ a, A = some a → ¬ F a.block) :
    Calls Tryd.prog 20 #[.pointer (some p), .slice A n c] w fun e w' => e = .returned (.tuple #[]) ∧ ∃ F' : Nat → Prop, D w' F' p (S.crash l) ∧ Touch F w w' ∧ ∀ k, F' k → F k ∨ w.heap.size ≤ k := by
  refine (api.crash A n c B l w F p S h.d hr hc hn hA).mono ?_
  rintro e w' ⟨rfl, F', hd, ht, hF⟩
  exact ⟨rfl, F', hd, ht, hF⟩
/-- The beginning of a law: a disk that was made, formatted and opened. -/
theorem law_fresh_open {m : Nat} (hm : 3 ≤ m ∧ m ≤ 65536) : (markS (DS.new m) 0 1).2.writes ≤ 9223372036854700000 := by
  have hF : Free (DS.new m) := ⟨rfl, rfl⟩
  obtain ⟨_, _, _, h4, _⟩ := free_mark hF (c := 0) (s := 1) (show 3 ≤ m from hm.1) (by decide)
  rw [h4]
  show 0 + 1 ≤ 9223372036854700000
  omega
end

end Go.Proofs.YtkmlmbakgmafjaaDoor

/-
  The statement package's own check over the program's log: it returns true. Condition: the table that crc.Step reads holds what the program's text lays in it.
-/
namespace Go.Proofs.YtkmlmbakgmafjaaDoor
open Go.RowKit
set_option maxRecDepth 100000
set_option linter.unusedVariables false

theorem RImgs.two {w : World} {F : Nat → Prop} {b g1 g2 : Nat} {T : TypeId} {x1 x2 : Int} {l1 l2 : List Int} (h : w.heap[b]? = some (.cells #[.int .i64 x1, .slice (some ⟨g1, 0, none⟩) 240 240, .int .i64 x2, .slice (some ⟨g2, 0, none⟩) 240 240] T (0, 0))) (hb : ¬ F b) (h1 : ¬ F g1) (h2 : ¬ F g2) (r1 : RB w w.heap.size (some ⟨g1, 0, none⟩) 240 l1) (r2 : RB w w.heap.size (some ⟨g2, 0, none⟩) 240 l2) : RImgs w F (some ⟨b, 0, none⟩) 2 [(x1, l1), (x2, l2)] := by
  refine ⟨rfl, fun _ => ⟨b, rfl, hb, (Array.getElem?_eq_some_iff.1 h).1, fun i y hy => ?_⟩⟩
  match i, hy with
  | 0, hy =>
    obtain rfl : (x1, l1) = y := by simpa using hy
    refine ⟨?_, some ⟨g1, 0, none⟩, 240, 240, ?_, Nat.le_refl _, by decide, r1, fun a ha _ => by cases ha; exact h1⟩
    · rw [cell_of_row w b _ _ _ (0, 0) h]; rfl
    · rw [cell_of_row w b _ _ _ (0, 0) h]; rfl
  | 1, hy =>
    obtain rfl : (x2, l2) = y := by simpa using hy
    refine ⟨?_, some ⟨g2, 0, none⟩, 240, 240, ?_, Nat.le_refl _, by decide, r2, fun a ha _ => by cases ha; exact h2⟩
    · rw [cell_of_row w b _ _ _ (0, 0) h]; rfl
    · rw [cell_of_row w b _ _ _ (0, 0) h]; rfl
  | i + 2, hy => simp at hy

/-- The images of the check, and what is there behind them. -/
def awL : List (Int × List Int) := [(2, reps 240 7), (0, reps 240 8)]
theorem awL_imgs : Imgs 9 1 awL := by
  have hp : pagesOf 9 = 4 := by decide
  refine ⟨fun x hx => ?_, fun x hx => ?_, by decide, by rw [hp]; decide, by decide, by decide⟩
  · rw [hp]
    rcases List.mem_cons.1 hx with rfl | hx
    · exact ⟨by decide, by decide, reps_length _ _⟩
    · obtain rfl := List.mem_singleton.1 hx
      exact ⟨by decide, by decide, reps_length _ _⟩
  · rcases List.mem_cons.1 hx with rfl | hx
    · exact reps_bytes _ (by decide)
    · obtain rfl := List.mem_singleton.1 hx
      exact reps_bytes _ (by decide)
theorem aw_end {S : DS} (hF : Free S) (hn : S.n = 9) (hw : S.writes = 1) (hR : Rests S fresh1) : (commitS S 1 awL).1 = 0 ∧ (commitS S 1 awL).2.1 = 2 ∧ (commitS S 1 awL).2.2.n = 9 ∧ (commitS S 1 awL).2.2.writes = 6 ∧ loadS (commitS S 1 awL).2.2 2 = (reps 240 7, 0) := by
  obtain ⟨h1, h2, h3, h4, h5, h6⟩ := free_commit (n := 9) (by rw [hn]; rfl) (by decide) awL_imgs (by decide) hF hR
  refine ⟨h1, h2, by rw [h4, hn], by rw [h5, hw]; rfl, ?_⟩
  rw [load_rests (n := 9) (by rw [h4, hn]; rfl) h6 (by decide)]
  rw [(pages_marked awL_imgs).1 (2, reps 240 7) (List.mem_cons_self ..)]

section
variable {D : World → (Nat → Prop) → Addr → DS → Prop}

set_option maxHeartbeats 4000000 in
theorem redoAwake_any (api : DiskApi D) (w : World) (ht : Tab w ∧ 1 < w.heap.size) : Calls Tryd.prog 12 #[] w fun e w' => e = .returned (.bool true) ∧ Below w.heap.size w w' := by
  obtain ⟨r1, r2, r3, r4, r5, r6, r7⟩ := fresh_log (m := 9) (by decide)
  have hfw := law_fresh_open (m := 9) (by decide)
  have HR1 := Lib.hid r1
  have HN := Lib.hid (law_new api (w0 := w) (w := w) (n := 9) (by decide) (by decide) ht (Below.refl _ _))
  rw [show Int.toNat 9 = 9 from rfl] at HN
  go_enter Tryd.func12, Tryd.ntmps12
  go_wp2_with fail
  refine HN.out.mono ?_
  rintro e w1 ⟨p, F1, rfl, L1, _⟩
  have HFM := Lib.hid (law_format api L1 (by decide))
  rw [r1] at HFM
  go_wp2_with fail
  refine HFM.out.mono ?_
  rintro e w2 ⟨rfl, F2, L2, _⟩
  have HO := Lib.hid (law_open_ok api L2 hfw r2)
  rw [r3] at HO
  generalize (openS (markS (DS.new 9) 0 1).2).2.2 = S2 at *
  clear r1 r2 r3 hfw HN HFM HR1 L1 L2
  go_wp2_with fail
  refine HO.out.mono ?_
  rintro e w3 ⟨q, F3, rfl, hq3, L3, _⟩
  clear HO
  go_wp2_with fail
  refine (page_any 7 (by decide) w3).mono ?_
  rintro e w4 ⟨g4, rfl, hg4, hr4, hb4⟩
  have L4 := L3.later api hb4
  go_wp2_with fail
  refine (page_any 8 (by decide) w4).mono ?_
  rintro e w5 ⟨g5, rfl, hg5, hr5, hb5⟩
  have L5 := L4.later api hb5
  have hg4l : g4 < w4.heap.size := by obtain ⟨bb, _, e, hbb, _⟩ := hr4.at_ (by decide); cases e; exact hbb
  have hr45 := hr4.there (by decide) (hb5.block g4 hg4l) hb5.size
  have hlt3 := L3.lt api
  have hs4 := hb4.size
  have hs5 := hb5.size
  have hql := L3.log.cells.2.2.2
  clear L3 L4 hr4 hb4 hb5
  go_wp2_with fail
  obtain ⟨e1, e2, e3, e4, e5⟩ := aw_end r4 r5 r6 r7
  have hX : Below w5.heap.size w5 (w5.alloc (.cells #[.int .i64 2, .slice (some ⟨g4, 0, none⟩) 240 240, .int .i64 0, .slice (some ⟨g5, 0, none⟩) 240 240] 64)) := (Below.refl _ _).alloc (Nat.le_refl _) _
  have LX := L5.later api hX
  have hg5l : g5 < w5.heap.size := by obtain ⟨bb, _, e, hbb, _⟩ := hr5.at_ (by decide); cases e; exact hbb
  have hno : ∀ k, w3.heap.size ≤ k → ¬ orAt F3 q k := fun k hk hf => by
    rcases hf with a | a
    · have := hlt3 k a; omega
    · omega
  have hri := RImgs.two (heap_alloc_new w5 (.cells #[.int .i64 2, .slice (some ⟨g4, 0, none⟩) 240 240, .int .i64 0, .slice (some ⟨g5, 0, none⟩) 240 240] 64)) (hno _ (by omega)) (hno g4 hg4) (hno g5 (by omega)) (hr45.there (by decide) (hX.block g4 (by omega)) hX.size) (hr5.there (by decide) (hX.block g5 hg5l) hX.size)
  have HC := Lib.hid (law_commit (c := 2) (l := awL) api LX hri (fun y hy => awL_imgs.bytes y hy) (fun y hy => by
    rcases List.mem_cons.1 hy with rfl | hy
    · exact ⟨by decide, by decide⟩
    · obtain rfl := List.mem_singleton.1 hy; exact ⟨by decide, by decide⟩) (by decide) (by decide) (by omega))
  rw [e1, e2] at HC
  generalize (commitS S2 1 awL).2.2 = S3 at *
  clear L5 hr45 hr5 hX LX hno hri e1 e2 r4 r5 r6 r7
  refine HC.out.mono ?_
  rintro e w6 ⟨rfl, F6, L6, _⟩
  have HL := Lib.hid (law_load api L6 2 (by decide))
  rw [e5] at HL
  go_wp2_with fail
  refine HL.out.mono ?_
  rintro e w7 ⟨A, n, c, rfl, hc, hr7, L7, hb7⟩
  obtain rfl : n = 240 := by rw [← hr7.len]; exact reps_length _ _
  obtain ⟨ab, ao, rfl, hab, hcell⟩ := hr7.at_ (by decide)
  have a0 := hcell 0 (by decide)
  rw [reps_getD (by decide), Nat.add_zero] at a0
  have HP := Lib.hid (law_pages api L7)
  rw [e3, show pagesOf ((9 : Nat) : Int) = 4 from by decide] at HP
  have HSQ := Lib.hid (law_seq L7)
  have HWR := Lib.hid (law_writes api L7.toLawD)
  rw [e4] at HWR
  have HF := Lib.hid L7.bel
  clear L6 L7 hr7 hcell HC HL
  go_wp2_with (first
    | (go_at_call 33; refine HP.out.mono ?_; rintro e w8 ⟨rfl, hw8⟩; have hw8 := hw8.symm; subst hw8)
    | (go_at_call 15; refine HSQ.out.mono ?_; rintro e w8 ⟨rfl, hw8⟩; have hw8 := hw8.symm; subst hw8)
    | (go_at_call 16; refine HWR.out.mono ?_; rintro e w8 ⟨rfl, hw8⟩; have hw8 := hw8.symm; subst hw8))
  go_ret
  exact ⟨rfl, HF.out⟩
end

end Go.Proofs.YtkmlmbakgmafjaaDoor

/-
  What a log that no call made answers; and a disk that no call made. No condition.
-/
namespace Go.Proofs.YtkmlmbakgmafjaaDoor
open Go.RowKit
set_option maxRecDepth 100000
set_option linter.unusedVariables false

set_option maxHeartbeats 400000 in
theorem read_nil (i : Int) (w : World) : Calls Tryd.prog 28 #[.pointer none, .int .i64 i] w fun e w' => e = .returned (.tuple #[.slice none 0 0, .int .i64 2]) ∧ w = w' := by
  go_enter Tryd.func28, Tryd.ntmps28
  go_wp2_with fail
  refine (ready_nil w).mono ?_
  rintro e w1 ⟨rfl, rfl⟩
  go_wp2
  go_ret2
  exact ⟨rfl, rfl⟩
set_option maxHeartbeats 400000 in
theorem write_nil (i : Int) (A : Option Addr) (n c : Nat) (w : World) : Calls Tryd.prog 73 #[.pointer none, .int .i64 i, .slice A n c] w fun e w' => e = .returned (.int .i64 2) ∧ w = w' := by
  go_enter Tryd.func73, Tryd.ntmps73
  go_wp2_with fail
  refine (ready_nil w).mono ?_
  rintro e w1 ⟨rfl, rfl⟩
  go_wp2
  go_ret
  exact ⟨rfl, rfl⟩
set_option maxHeartbeats 400000 in
theorem made_nil_log (w : World) : Calls Tryd.prog 47 #[.pointer none] w fun e w' => e = .returned (.bool false) ∧ w = w' := by
  go_enter Tryd.func47, Tryd.ntmps47
  go_wp2
  go_ret
  exact ⟨rfl, rfl⟩
set_option maxHeartbeats 400000 in
theorem made_zero_log {w : World} {q : Nat} (h : w.cell? ⟨q, 0, none⟩ = some (.pointer none)) : Calls Tryd.prog 47 #[.pointer (some ⟨q, 0, none⟩)] w fun e w' => e = .returned (.bool false) ∧ w = w' := by
  go_enter Tryd.func47, Tryd.ntmps47
  go_wp2
  go_ret
  exact ⟨rfl, rfl⟩
section
variable {w : World} {v : Value}
set_option maxHeartbeats 400000 in
theorem load_unmade (hm : Calls Tryd.prog 47 #[v] w fun e w' => e = .returned (.bool false) ∧ w = w') (n : Int) : Calls Tryd.prog 22 #[v, .int .i64 n] w fun e w' => e = .returned (.tuple #[.slice none 0 0, .int .i64 2]) ∧ w = w' := by
  have HM := Lib.hid hm
  clear hm
  go_enter Tryd.func22, Tryd.ntmps22
  go_wp2_with fail
  refine HM.out.mono ?_
  rintro e w1 ⟨rfl, rfl⟩
  go_wp2
  go_ret2
  exact ⟨rfl, rfl⟩
set_option maxHeartbeats 400000 in
theorem right_unmade (hm : Calls Tryd.prog 47 #[v] w fun e w' => e = .returned (.bool false) ∧ w = w') (A : Option Addr) (n c : Nat) : Calls Tryd.prog 56 #[v, .slice A n c] w fun e w' => e = .returned (.int .i64 2) ∧ w = w' := by
  have HM := Lib.hid hm
  clear hm
  go_enter Tryd.func56, Tryd.ntmps56
  go_wp2_with fail
  refine HM.out.mono ?_
  rintro e w1 ⟨rfl, rfl⟩
  go_wp2
  go_ret
  exact ⟨rfl, rfl⟩
set_option maxHeartbeats 400000 in
theorem commit_unmade (hm : Calls Tryd.prog 47 #[v] w fun e w' => e = .returned (.bool false) ∧ w = w') (A : Option Addr) (n c : Nat) : Calls Tryd.prog 25 #[v, .slice A n c] w fun e w' => e = .returned (.int .i64 2) ∧ w = w' := by
  have HM := Lib.hid (right_unmade hm A n c)
  clear hm
  go_enter Tryd.func25, Tryd.ntmps25
  go_wp2_with fail
  refine HM.out.mono ?_
  rintro e w1 ⟨rfl, rfl⟩
  go_wp2
  go_ret
  exact ⟨rfl, rfl⟩
set_option maxHeartbeats 400000 in
theorem pages_unmade (hm : Calls Tryd.prog 47 #[v] w fun e w' => e = .returned (.bool false) ∧ w = w') : Calls Tryd.prog 33 #[v] w fun e w' => e = .returned (.int .i64 0) ∧ w = w' := by
  have HM := Lib.hid hm
  clear hm
  go_enter Tryd.func33, Tryd.ntmps33
  go_wp2_with fail
  refine HM.out.mono ?_
  rintro e w1 ⟨rfl, rfl⟩
  go_wp2
  go_ret
  exact ⟨rfl, rfl⟩
set_option maxHeartbeats 400000 in
theorem seq_unmade (hm : Calls Tryd.prog 47 #[v] w fun e w' => e = .returned (.bool false) ∧ w = w') : Calls Tryd.prog 15 #[v] w fun e w' => e = .returned (.int .i64 0) ∧ w = w' := by
  have HM := Lib.hid hm
  clear hm
  go_enter Tryd.func15, Tryd.ntmps15
  go_wp2_with fail
  refine HM.out.mono ?_
  rintro e w1 ⟨rfl, rfl⟩
  go_wp2
  go_ret
  exact ⟨rfl, rfl⟩
end
set_option maxHeartbeats 400000 in
theorem open_nil (w : World) : Calls Tryd.prog 13 #[.pointer none] w fun e w' => e = .returned (.tuple #[.pointer none, .int .i64 2]) ∧ w = w' := by
  have HM := Lib.hid lay_said.mark
  go_enter Tryd.func13, Tryd.ntmps13
  go_wp2_with (go_at_call 41; refine (HM.out _).mono ?_; rintro e w3 ⟨rfl, rfl⟩)
  refine (read_nil 0 w).mono ?_
  rintro e w1 ⟨rfl, rfl⟩
  go_wp2
  go_ret2
  exact ⟨rfl, rfl⟩
set_option maxHeartbeats 800000 in
theorem put_nil {w : World} {b g c : Nat} {T : TypeId} {x : Int} (h : w.heap[b]? = some (.cells #[.int .i64 x, .slice (some ⟨g, 0, none⟩) 256 c] T (0, 0))) : Calls Tryd.prog 38 #[.pointer none, .slice (some ⟨b, 0, none⟩) 1 1] w fun e w' => e = .returned (.int .i64 2) ∧ Below w.heap.size w w' := by
  have c0 : w.cell? ⟨b, 0, none⟩ = some (.int .i64 x) := by rw [cell_of_row w b _ _ _ (0, 0) h]; rfl
  have c1 : w.cell? ⟨b, 1, none⟩ = some (.slice (some ⟨g, 0, none⟩) 256 c) := by rw [cell_of_row w b _ _ _ (0, 0) h]; rfl
  have HB := Lib.hid (fun (o : Obj) => (Below.refl w.heap.size w).alloc (Nat.le_refl _) o)
  go_enter Tryd.func38, Tryd.ntmps38
  go_wp2
  go_loopw [10] (fun i wr => i = .int .i64 0 ∧ wr = w) (fun i _ => 1 - (intOf i).toNat)
  case atStart => exact ⟨rfl, rfl⟩
  case round =>
    obtain ⟨rfl, rfl⟩ := hrel
    go_wp2_with fail
    refine (write_nil _ _ _ _ _).mono ?_
    rintro e w1 ⟨rfl, rfl⟩
    have hF := Lib.hid (HB.out (.cells #[.int .i64 x, .slice (some ⟨g, 0, none⟩) 256 c] 79))
    go_wp2
    go_ret
    exact ⟨rfl, hF.out⟩
set_option maxHeartbeats 800000 in
theorem format_nil (w : World) (ht : Tab w ∧ 1 < w.heap.size) : Calls Tryd.prog 10 #[.pointer none] w fun e w' => e = .returned (.int .i64 2) ∧ Below w.heap.size w w' := by
  have HM := Lib.hid (markOf_any (F := fun _ => False) 0 1 (by decide) ⟨ht.1, ht.2, fun h => h⟩)
  go_enter Tryd.func10, Tryd.ntmps10
  go_wp2_with fail
  refine HM.out.mono ?_
  rintro e w1 ⟨g, c, rfl, hc, hg, hr1, hb1⟩
  have hbk : ((w1.alloc (.cells #[.int .i64 0, .slice (some ⟨g, 0, none⟩) 256 c] 79)).alloc (.cells #[.int .i64 0, .slice (some ⟨g, 0, none⟩) 256 c] 79)).heap[w1.heap.size + 1]? = some (.cells #[.int .i64 0, .slice (some ⟨g, 0, none⟩) 256 c] 79 (0, 0)) := by
    have := heap_alloc_new (w1.alloc (.cells #[.int .i64 0, .slice (some ⟨g, 0, none⟩) 256 c] 79)) (.cells #[.int .i64 0, .slice (some ⟨g, 0, none⟩) 256 c] 79)
    simpa using this
  have hX : Below w.heap.size w ((w1.alloc (.cells #[.int .i64 0, .slice (some ⟨g, 0, none⟩) 256 c] 79)).alloc (.cells #[.int .i64 0, .slice (some ⟨g, 0, none⟩) 256 c] 79)) := (hb1.alloc hb1.size _).alloc (by have := hb1.size; simp; omega) _
  have HP := Lib.hid (put_nil hbk)
  have HX := Lib.hid hX
  clear hbk hX hr1
  go_wp2_with fail
  refine HP.out.mono ?_
  rintro e w2 ⟨rfl, hb2⟩
  have hF := Lib.hid (HX.out.trans (hb2.mono HX.out.size))
  clear hb2
  go_wp2
  go_ret
  exact ⟨rfl, hF.out⟩

end Go.Proofs.YtkmlmbakgmafjaaDoor

/-
  The program's disk answers as it is to. Conditions: those of the contracts (a list of at most 2^63 - 1 places; fewer than 2^63 - 1 writes; a sector of at most 4,096 bytes).
-/
namespace Go.Proofs.YtkmlmbakgmafjaaDoor
open Go.RowKit
set_option maxRecDepth 100000
set_option linter.unusedVariables false

theorem disk_said : ∃ D, DiskApi D := by
  refine ⟨DAt, ?_⟩
  exact {
    keep := fun w w' F p S h hk => h.keep hk
    lt := fun w F p S h => by
      obtain ⟨b, sb, fb, left, pv, sN, fN, sf, ff, rfl, hrow, hrest, harm, hok, hdom, hcnt, hFb, hlt⟩ := h
      exact hlt
    ok := fun w F p S h => by
      obtain ⟨b, sb, fb, left, pv, sN, fN, sf, ff, rfl, hrow, hrest, harm, hok, hdom, hcnt, hFb, hlt⟩ := h
      exact hok
    new := fun n w h1 h2 => by
      obtain ⟨k, rfl⟩ := Int.eq_ofNat_of_zero_le (show 0 ≤ n by omega)
      refine (new_yes k w (by omega) (by omega)).mono ?_
      rintro e w' ⟨p, rfl, F', hd, ht, hF⟩
      refine ⟨p, F', rfl, hd, ht.below (fun k h => absurd h id) (Nat.le_refl _), fun k hk => ?_⟩
      rcases hF k hk with a | a
      · exact absurd a id
      · exact a
    newNo := fun n w h => new_no n w h
    read := read_dev
    readAt := read_at
    write := fun i A n c B l w F p S h hr hc hn hw hA => write_dev i A n c B l w F p S h hr hc hn hw hA
    flush := flush_dev
    arm := fun i w F p S h hi => arm_dev i w F p S h hi
    crash := fun A n c B l w F p S h hr hc hm hA => crash_dev A n c B l w F p S h hr hm
    writes := writes_dev
    down := down_dev
    sizes := size_dev
    sizeSame := size_same
    writesSame := writes_same
    downSame := down_same }

end Go.Proofs.YtkmlmbakgmafjaaDoor

/-
  Contract of the statement package's own images of pages, each once. Nothing that was there is written. Condition: at most 60 bytes.
-/
namespace Go.Proofs.YtkmlmbakgmafjaaDoor
open Go.RowKit
set_option maxRecDepth 100000
set_option linter.unusedVariables false

/-- The images of the first k bytes. -/
def someAt (l : List Int) (c : Int) : Nat → List (Int × List Int)
  | 0 => []
  | k + 1 => if (l[k]?.getD 0) % 13 ∈ (someAt l c k).map (·.1) then someAt l c k else someAt l c k ++ [((l[k]?.getD 0) % 13, reps 240 ((c + (k : Int)) % 256))]
theorem some_facts (l : List Int) (c : Int) (hl : AllBytes l) : ∀ k, (∀ y ∈ someAt l c k, 0 ≤ y.1 ∧ y.1 < 13 ∧ y.2.length = 240 ∧ AllBytes y.2) ∧ ((someAt l c k).map (·.1)).Nodup ∧ (someAt l c k).length ≤ k := by
  intro k
  induction k with
  | zero => exact ⟨(fun y hy => by cases hy), List.nodup_nil, Nat.le_refl _⟩
  | succ k ih =>
    obtain ⟨h1, h2, h3⟩ := ih
    unfold someAt
    split
    · exact ⟨h1, h2, Nat.le_succ_of_le h3⟩
    · rename_i hno
      refine ⟨fun y hy => ?_, ?_, by simp; omega⟩
      · rcases List.mem_append.1 hy with a | a
        · exact h1 y a
        · obtain rfl := List.mem_singleton.1 a
          exact ⟨by show 0 ≤ _ % 13; omega, by show _ % 13 < 13; omega, reps_length _ _, reps_bytes _ (by omega)⟩
      · rw [List.map_append, List.nodup_append]
        refine ⟨h2, by simp, fun a ha b hb => ?_⟩
        obtain rfl : b = (l[k]?.getD 0) % 13 := by simpa using hb
        rintro rfl
        exact hno ha

set_option maxHeartbeats 400000 in
theorem some1_any {w : World} {mb : Nat} {pm : Int} (pg : Int) (D : Option Addr) (m c : Nat) (h : w.cell? ⟨mb, 0, none⟩ = some (.int .i64 pm)) : Calls Tryd.prog 69 #[.agg #[.int .i64 pg, .slice D m c], .pointer (some ⟨mb, 0, none⟩)] w fun e w' => e = .returned (.bool (pg == pm)) ∧ Below w.heap.size w w' := by
  have hlt : mb < w.heap.size := World.block_lt_of_cell? _ _ h
  have hX : Below w.heap.size w (w.alloc (.cells #[.int .i64 pg, .slice D m c] 64)) := (Below.refl _ _).alloc (Nat.le_refl _) _
  have h1 := (hX.cell (p := ⟨mb, 0, none⟩) hlt).trans h
  have h2 : (w.alloc (.cells #[.int .i64 pg, .slice D m c] 64)).cell? ⟨w.heap.size, 0, none⟩ = some (.int .i64 pg) := by
    rw [cell_of_row _ w.heap.size 0 _ _ (0, 0) (heap_alloc_new _ _)]; rfl
  go_enter Tryd.func69, Tryd.ntmps69
  go_wp2
  go_ret
  exact ⟨rfl, hX⟩

set_option maxHeartbeats 800000 in
theorem someIdx_any {w : World} {mb : Nat} {pm : Int} {G : Nat → Prop} {A : Option Addr} {n : Nat} {l : List (Int × List Int)} (c : Nat) (h : w.cell? ⟨mb, 0, none⟩ = some (.int .i64 pm)) (hl : RImgs w G A n l) (hn : n ≤ 65536) :
    Calls Tryd.prog 88 #[.slice A n c, .func (.func 69) #[] #[.pointer (some ⟨mb, 0, none⟩)]] w fun e w' => ∃ i : Int, e = .returned (.int .i64 i) ∧ decide (0 ≤ i) = decide (pm ∈ l.map (·.1)) ∧ Below w.heap.size w w' := by
  have hlt := World.block_lt_of_cell? _ _ h
  have hlen := hl.1
  have HL := Lib.hid (fun (w1 : World) (hb : Below w.heap.size w w1) => hl.keep hb.size (fun _ _ h => h) (fun k hk _ => hb.block k hk))
  have HC := Lib.hid (fun (w1 : World) (hb : Below w.heap.size w w1) => (hb.cell (p := ⟨mb, 0, none⟩) hlt).trans h)
  clear hl h
  go_enter Tryd.func88, Tryd.ntmps88
  go_wp2_with fail
  go_loopw [8] (fun i wr => ∃ j : Nat, j ≤ n ∧ i = .int .i64 j ∧ Hid (∀ m, m < j → ∀ y, l[m]? = some y → y.1 ≠ pm) ∧ Hid (Below w.heap.size w wr)) (fun i _ => n - (intOf i).toNat)
  case atStart => exact ⟨0, Nat.zero_le _, rfl, Lib.hid (fun m hm => absurd hm (by omega)), Lib.hid (Below.refl _ _)⟩
  case round =>
    obtain ⟨j, hj, rfl, hbef, hbw⟩ := hrel
    have hm' : n ≤ 9223372036854775807 := by omega
    by_cases hlt2 : j < n
    · have hlt' : (j : Int) < (n : Int) := by omega
      obtain ⟨y, hy⟩ : ∃ y, l[j]? = some y := ⟨_, List.getElem?_eq_getElem (by omega)⟩
      obtain ⟨b, rfl, hGb, hbl, hat⟩ := (HL.out wr hbw.out).2 (by omega)
      obtain ⟨c1, D, m, cm, c2, _, _, _, _⟩ := hat j y hy
      have H1 := Lib.hid (some1_any y.1 D m cm (HC.out wr hbw.out))
      have HY := Lib.hid hy
      clear hat hy
      by_cases hk : y.1 = pm
      · have hkd : (y.1 == pm) = true := by simpa using hk
        have HK := Lib.hid hk
        clear hk
        go_wp2_with fail
        refine H1.out.mono ?_
        rw [hkd]
        rintro e w' ⟨rfl, hb'⟩
        go_wp2
        go_ret
        refine ⟨_, rfl, ?_, hbw.out.trans (hb'.mono hbw.out.size)⟩
        rw [decide_eq_true (show (0 : Int) ≤ (j : Int) by omega), decide_eq_true (List.mem_map.2 ⟨y, List.mem_of_getElem? HY.out, HK.out⟩)]
      · have hkd : (y.1 == pm) = false := by simpa using hk
        have hn2 := Lib.hid (fun m (hm : m < j + 1) => show ∀ z, l[m]? = some z → z.1 ≠ pm by
          intro z hz
          rcases Nat.lt_or_ge m j with h | h
          · exact hbef.out m h z hz
          · obtain rfl : m = j := by omega
            rw [HY.out] at hz
            cases hz
            exact hk)
        clear hk
        go_wp2_with fail
        refine H1.out.mono ?_
        rw [hkd]
        rintro e w' ⟨rfl, hb'⟩
        have HB := Lib.hid (hbw.out.trans (hb'.mono hbw.out.size))
        clear hb'
        go_wp2
        go_roundw
        case rel => exact ⟨j + 1, by omega, by go_num, hn2, HB⟩
        case measure => simp [intOf]; omega
    · obtain rfl : j = n := by omega
      have hno := Lib.hid (show ¬ pm ∈ l.map (·.1) from fun hm => by
        obtain ⟨y, hy, e⟩ := List.mem_map.1 hm
        obtain ⟨i, hi, rfl⟩ := List.getElem_of_mem hy
        exact hbef.out i (by omega) _ (List.getElem?_eq_getElem hi) e)
      go_wp2
      go_ret
      refine ⟨-1, rfl, ?_, hbw.out⟩
      rw [decide_eq_false hno.out]
      rfl

theorem someHas_any {w : World} {mb : Nat} {pm : Int} {G : Nat → Prop} {A : Option Addr} {n : Nat} {l : List (Int × List Int)} (c : Nat) (h : w.cell? ⟨mb, 0, none⟩ = some (.int .i64 pm)) (hl : RImgs w G A n l) (hn : n ≤ 65536) :
    Calls Tryd.prog 68 #[.slice A n c, .func (.func 69) #[] #[.pointer (some ⟨mb, 0, none⟩)]] w fun e w' => e = .returned (.bool (decide (pm ∈ l.map (·.1)))) ∧ Below w.heap.size w w' := by
  have HI := Lib.hid (someIdx_any c h hl hn)
  clear h hl
  go_enter Tryd.func68, Tryd.ntmps68
  go_wp2_with fail
  refine HI.out.mono ?_
  rintro e w' ⟨i, rfl, hi, hb⟩
  have HE := Lib.hid hi
  clear hi
  go_wp2
  go_ret
  exact ⟨by rw [← HE.out]; rfl, hb⟩

set_option maxHeartbeats 4000000 in
theorem some_any {w : World} {A : Option Addr} {n cap B : Nat} {l : List Int} (hr : RB w B A n l) (hB : B ≤ w.heap.size) (hn : n ≤ 60) (c : Int) (hc : 0 ≤ c ∧ c < 256) :
    Calls Tryd.prog 30 #[.slice A n cap, .int .u8 c] w fun e w' => ∃ A' c', e = .returned (.slice A' (someAt l c n).length c') ∧ RImgs w' (fun k => k < w.heap.size) A' (someAt l c n).length (someAt l c n) ∧ Below w.heap.size w w' := by
  have HR := Lib.hid (fun (w1 : World) (hb : Below w.heap.size w w1) => hr.below (hb.mono hB))
  have HBY := Lib.hid (hr.bytes)
  have HLN := Lib.hid hr.len
  clear hr
  go_enter Tryd.func30, Tryd.ntmps30
  go_wp2_with fail
  go_loopw [5, 11] (fun ov i wr => ∃ k : Nat, k ≤ n ∧ i = .int .i64 k ∧ Hid (PRow 64 240 wr (fun j => j < w.heap.size) w.heap.size ov (someAt l c k)) ∧ Hid (Below w.heap.size w wr)) (fun _ i _ => n - (intOf i).toNat)
  case atStart => exact ⟨0, Nat.zero_le _, rfl, Lib.hid (PRow.start _ _ _ _ _), Lib.hid (Below.refl _ _)⟩
  case round =>
    obtain ⟨k, hk, rfl, hrow, hbw⟩ := hrel
    obtain ⟨A0, c0, rfl, hAc, him⟩ := hrow.out.imgs (by decide)
    by_cases hlt2 : k < n
    · have hlt' : (k : Int) < (n : Int) := by omega
      have hm' : n ≤ 9223372036854775807 := by omega
      obtain ⟨ab, ao, rfl, hab, hcell⟩ := (HR.out wr hbw.out).at_ (by omega)
      have hck := hcell k hlt2
      have hbyte : 0 ≤ l[k]?.getD 0 ∧ l[k]?.getD 0 < 256 := by
        have hkl : k < l.length := by rw [HLN.out]; exact hlt2
        rw [List.getElem?_eq_getElem hkl]
        exact HBY.out _ (List.getElem_mem hkl)
      have hsk : someAt l c (k + 1) = if (l[k]?.getD 0) % 13 ∈ (someAt l c k).map (·.1) then someAt l c k else someAt l c k ++ [((l[k]?.getD 0) % 13, reps 240 ((c + (k : Int)) % 256))] := rfl
      have HSK := Lib.hid hsk
      clear hsk
      generalize l[k]?.getD 0 = x at hck hbyte HSK
      have HPG := Lib.hid (page_any ((c + (k : Int)) % 256) (by omega) wr)
      clear hcell hab
      go_wp2_with fail
      refine HPG.out.mono ?_
      rintro e w2 ⟨g, rfl, hg, hr2, hb2⟩
      have hb02 := hbw.out.trans (hb2.mono hbw.out.size)
      have hX1 : Below w2.heap.size w2 (w2.alloc (.cells #[.int .i64 (x % 13), .slice (some ⟨g, 0, none⟩) 240 240] 64)) := (Below.refl _ _).alloc (Nat.le_refl _) _
      have hb0X := hb02.trans (hX1.mono hb02.size)
      have hbrX := hb2.trans (hX1.mono hb2.size)
      have hmb : (w2.alloc (.cells #[.int .i64 (x % 13), .slice (some ⟨g, 0, none⟩) 240 240] 64)).heap[w2.heap.size]? = some (.cells #[.int .i64 (x % 13), .slice (some ⟨g, 0, none⟩) 240 240] 64 (0, 0)) := heap_alloc_new _ _
      have m0 : (w2.alloc (.cells #[.int .i64 (x % 13), .slice (some ⟨g, 0, none⟩) 240 240] 64)).cell? ⟨w2.heap.size, 0, none⟩ = some (.int .i64 (x % 13)) := by rw [cell_of_row _ w2.heap.size 0 _ _ (0, 0) hmb]; rfl
      have hlenk : (someAt l c k).length ≤ 60 := by have := (some_facts l c HBY.out k).2.2; omega
      have HH := Lib.hid (someHas_any c0 m0 (him.below hbrX) (by omega))
      have hgl : g < w2.heap.size := by obtain ⟨bb, _, e, hbb, _⟩ := hr2.at_ (by decide); cases e; exact hbb
      have HK := Lib.hid (And.intro hb0X (And.intro hbrX (And.intro hmb (And.intro (hr2.there (by decide) (hX1.block g hgl) hX1.size) hgl))))
      have hw02 := hb02.size
      clear hb02 hX1 hb0X hbrX hmb m0 hr2 hb2 hgl HPG him
      go_wp2_with fail
      refine HH.out.mono ?_
      by_cases hin : x % 13 ∈ (someAt l c k).map (·.1)
      · rw [decide_eq_true hin]
        have HS2 := Lib.hid (HSK.out.trans (if_pos hin))
        clear hin
        rintro e w3 ⟨rfl, hb3⟩
        obtain ⟨hb0X, hbrX, hmb, hrX, hgl⟩ := HK.out
        have hrow2 := Lib.hid ((hrow.out.below (by decide) hbrX).below (by decide) hb3)
        have HB := Lib.hid (hb0X.trans (hb3.mono hb0X.size))
        clear hb0X hbrX hmb hrX hgl hb3 HK HH hAc
        go_wp2
        go_roundw
        case rel => exact ⟨k + 1, by omega, by go_num, by rw [HS2.out]; exact hrow2, HB⟩
        case measure => simp [intOf]; omega
      · rw [decide_eq_false hin]
        have HS2 := Lib.hid (HSK.out.trans (if_neg hin))
        clear hin
        rintro e w3 ⟨rfl, hb3⟩
        obtain ⟨hb0X, hbrX, hmb, hrX, hgl⟩ := HK.out
        have hXs : (w2.alloc (.cells #[.int .i64 (x % 13), .slice (some ⟨g, 0, none⟩) 240 240] 64)).heap.size = w2.heap.size + 1 := by simp
        have hmb3 := (hb3.block w2.heap.size (by omega)).trans hmb
        have m0 : w3.cell? ⟨w2.heap.size, 0, none⟩ = some (.int .i64 (x % 13)) := by rw [cell_of_row _ w2.heap.size 0 _ _ (0, 0) hmb3]; rfl
        have m1 : w3.cell? ⟨w2.heap.size, 1, none⟩ = some (.slice (some ⟨g, 0, none⟩) 240 240) := by rw [cell_of_row _ w2.heap.size 1 _ _ (0, 0) hmb3]; rfl
        have hr3 := hrX.there (by decide) (hb3.block g (by omega)) hb3.size
        have hrow3 := (hrow.out.below (by decide) hbrX).below (by decide) hb3
        have hb03 := hb0X.trans (hb3.mono hb0X.size)
        obtain ⟨vs, hvs, hvl⟩ := hrow3.row
        have hX3 : Below w3.heap.size w3 (w3.alloc (.cells #[.int .i64 (x % 13), .slice (some ⟨g, 0, none⟩) 240 240] 64)) := (Below.refl _ _).alloc (Nat.le_refl _) _
        have hvsX := own_stays hvs (fun r hr => hX3.block r (own_at hvs r hr).2)
        have hbk : (w3.alloc (.cells #[.int .i64 (x % 13), .slice (some ⟨g, 0, none⟩) 240 240] 64)).heap[w3.heap.size]? = some (.cells #[.int .i64 (x % 13), .slice (some ⟨g, 0, none⟩) 240 240] 64 (0, 0)) := heap_alloc_new _ _
        have hs3 := hb3.size
        have hwr := hbw.out.size
        have hno : (Value.slice A0 (someAt l c k).length c0).ownBlock ≠ some g := fun e => by
          obtain ⟨vs0, hv0, _⟩ := hrow.out.row
          have := (own_at hv0 g e).2
          omega
        have hfar : Far w3 (fun j => j < w.heap.size) (.slice A0 (someAt l c k).length c0) (.slice (some ⟨g, 0, none⟩) 240 240) 240 (reps 240 ((c + (k : Int)) % 256)) := ⟨g, 240, rfl, Nat.le_refl _, fun hf => by have : g < w.heap.size := hf; omega, hno, by omega, hr3⟩
        have HPU := Lib.hid (fun (w4 : World) (A' : Option Addr) (c' : Nat) h1 h2 h3 => hrow3.push (v' := .slice A' ((someAt l c k).length + 1) c') (w1 := w4) (x := x % 13) (by decide) (fun k hk => by have : k < w.heap.size := hk; omega) hfar hvs hvl hX3 h1 h2 h3)
        have HB03 := Lib.hid hb03
        have hs03 := hb03.size
        have HOV := Lib.hid (fun r hr => (own_at hvs r hr).1)
        clear hb0X hbrX hmb hrX hgl hb3 HK HH hAc hXs hmb3 hr3 hrow3 hb03 hvs hvl hX3 hno hfar hs3
        generalize hLL : someAt l c k = LL at *
        have HLL := Lib.hid hLL
        clear hLL
        go_wp2_with (at_builtin; refine wpList_append_two rfl _ _ 56 64 rfl Tryd.underlying56 info_image w.heap.size (.slice A0 LL.length c0) LL.length vs rfl w3.heap.size (.int .i64 (x % 13)) (.slice (some ⟨g, 0, none⟩) 240 240) 64 rfl hvsX hbk rfl rfl (by omega) (by simp; omega) ?_; intro A4 c4 w4 hown4 hg4 hl4; have HO4 := Lib.hid (And.intro hown4 (And.intro hg4 hl4)); clear hown4 hg4 hl4 hvsX hbk)
        obtain ⟨q1, _, _⟩ := HPU.out w4 A4 c4 HO4.out.1 HO4.out.2.1 (by
          rcases HO4.out.2.2 with a | a
          · exact .inl a
          · exact .inr ⟨_, a, by simp⟩)
        have hb4 : Below w.heap.size w w4 := (HB03.out.alloc hs03 _).grown HO4.out.2.1 (by simp; omega) HOV.out
        have hrow4 := Lib.hid q1
        have HB4 := Lib.hid hb4
        clear q1 hb4
        go_roundw
        case rel => exact ⟨k + 1, by omega, by go_num, by rw [HS2.out]; exact hrow4, HB4⟩
        case measure => simp [intOf]; omega
    · obtain rfl : k = n := by omega
      have HF := Lib.hid (And.intro him hbw.out)
      clear him hrow
      go_wp2
      go_ret
      exact ⟨A0, c0, rfl, HF.out.1, HF.out.2⟩

end Go.Proofs.YtkmlmbakgmafjaaDoor
