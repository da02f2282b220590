/-
  The texts RedoNo, KvA, PgP joined. Conditions: those that each part says at its head.
-/
import Derived.Test.YtinhdimalhfgkaaGreatDoorG14
import Derived.Test.YtinhdimalhfgkaaGreatDoorG12
import Derived.Test.YtinhdimalhfgkaaGreatDoorG2
import Derived.Test.YtinhdimalhfgkaaGreatDoorG4

/-
  What a log that no call made answers; and a disk that no call made. No condition.
-/
namespace Go.Proofs.YtinhdimalhfgkaaGreatDoor
open Go.RowKit
set_option maxRecDepth 100000
set_option linter.unusedVariables false

set_option maxHeartbeats 400000 in
theorem read_nil (i : Int) (w : World) : Calls Tryz.prog 79 #[.pointer none, .int .i64 i] w fun e w' => e = .returned (.tuple #[.slice none 0 0, .int .i64 2]) ∧ w = w' := by
  go_enter Tryz.func79, Tryz.ntmps79
  go_wp2_with fail
  refine (ready_nil w).mono ?_
  rintro e w1 ⟨rfl, rfl⟩
  go_wp2
  go_ret2
  exact ⟨rfl, rfl⟩
set_option maxHeartbeats 400000 in
theorem write_nil (i : Int) (A : Option Addr) (n c : Nat) (w : World) : Calls Tryz.prog 131 #[.pointer none, .int .i64 i, .slice A n c] w fun e w' => e = .returned (.int .i64 2) ∧ w = w' := by
  go_enter Tryz.func131, Tryz.ntmps131
  go_wp2_with fail
  refine (ready_nil w).mono ?_
  rintro e w1 ⟨rfl, rfl⟩
  go_wp2
  go_ret
  exact ⟨rfl, rfl⟩
set_option maxHeartbeats 400000 in
theorem made_nil_log (w : World) : Calls Tryz.prog 140 #[.pointer none] w fun e w' => e = .returned (.bool false) ∧ w = w' := by
  go_enter Tryz.func140, Tryz.ntmps140
  go_wp2
  go_ret
  exact ⟨rfl, rfl⟩
set_option maxHeartbeats 400000 in
theorem made_zero_log {w : World} {q : Nat} (h : w.cell? ⟨q, 0, none⟩ = some (.pointer none)) : Calls Tryz.prog 140 #[.pointer (some ⟨q, 0, none⟩)] w fun e w' => e = .returned (.bool false) ∧ w = w' := by
  go_enter Tryz.func140, Tryz.ntmps140
  go_wp2
  go_ret
  exact ⟨rfl, rfl⟩
section
variable {w : World} {v : Value}
set_option maxHeartbeats 400000 in
theorem load_unmade (hm : Calls Tryz.prog 140 #[v] w fun e w' => e = .returned (.bool false) ∧ w = w') (n : Int) : Calls Tryz.prog 100 #[v, .int .i64 n] w fun e w' => e = .returned (.tuple #[.slice none 0 0, .int .i64 2]) ∧ w = w' := by
  have HM := Lib.hid hm
  clear hm
  go_enter Tryz.func100, Tryz.ntmps100
  go_wp2_with fail
  refine HM.out.mono ?_
  rintro e w1 ⟨rfl, rfl⟩
  go_wp2
  go_ret2
  exact ⟨rfl, rfl⟩
set_option maxHeartbeats 400000 in
theorem right_unmade (hm : Calls Tryz.prog 140 #[v] w fun e w' => e = .returned (.bool false) ∧ w = w') (A : Option Addr) (n c : Nat) : Calls Tryz.prog 152 #[v, .slice A n c] w fun e w' => e = .returned (.int .i64 2) ∧ w = w' := by
  have HM := Lib.hid hm
  clear hm
  go_enter Tryz.func152, Tryz.ntmps152
  go_wp2_with fail
  refine HM.out.mono ?_
  rintro e w1 ⟨rfl, rfl⟩
  go_wp2
  go_ret
  exact ⟨rfl, rfl⟩
set_option maxHeartbeats 400000 in
theorem commit_unmade (hm : Calls Tryz.prog 140 #[v] w fun e w' => e = .returned (.bool false) ∧ w = w') (A : Option Addr) (n c : Nat) : Calls Tryz.prog 93 #[v, .slice A n c] w fun e w' => e = .returned (.int .i64 2) ∧ w = w' := by
  have HM := Lib.hid (right_unmade hm A n c)
  clear hm
  go_enter Tryz.func93, Tryz.ntmps93
  go_wp2_with fail
  refine HM.out.mono ?_
  rintro e w1 ⟨rfl, rfl⟩
  go_wp2
  go_ret
  exact ⟨rfl, rfl⟩
set_option maxHeartbeats 400000 in
theorem pages_unmade (hm : Calls Tryz.prog 140 #[v] w fun e w' => e = .returned (.bool false) ∧ w = w') : Calls Tryz.prog 83 #[v] w fun e w' => e = .returned (.int .i64 0) ∧ w = w' := by
  have HM := Lib.hid hm
  clear hm
  go_enter Tryz.func83, Tryz.ntmps83
  go_wp2_with fail
  refine HM.out.mono ?_
  rintro e w1 ⟨rfl, rfl⟩
  go_wp2
  go_ret
  exact ⟨rfl, rfl⟩
end
set_option maxHeartbeats 400000 in
theorem open_nil (w : World) : Calls Tryz.prog 32 #[.pointer none] w fun e w' => e = .returned (.tuple #[.pointer none, .int .i64 2]) ∧ w = w' := by
  have HM := Lib.hid lay_said.mark
  go_enter Tryz.func32, Tryz.ntmps32
  go_wp2_with (go_at_call 80; refine (HM.out _).mono ?_; rintro e w3 ⟨rfl, rfl⟩)
  refine (read_nil 0 w).mono ?_
  rintro e w1 ⟨rfl, rfl⟩
  go_wp2
  go_ret2
  exact ⟨rfl, rfl⟩
set_option maxHeartbeats 800000 in
theorem put_nil {w : World} {b g c : Nat} {T : TypeId} {x : Int} (h : w.heap[b]? = some (.cells #[.int .i64 x, .slice (some ⟨g, 0, none⟩) 256 c] T (0, 0))) : Calls Tryz.prog 78 #[.pointer none, .slice (some ⟨b, 0, none⟩) 1 1] w fun e w' => e = .returned (.int .i64 2) ∧ Below w.heap.size w w' := by
  have c0 : w.cell? ⟨b, 0, none⟩ = some (.int .i64 x) := by rw [cell_of_row w b _ _ _ (0, 0) h]; rfl
  have c1 : w.cell? ⟨b, 1, none⟩ = some (.slice (some ⟨g, 0, none⟩) 256 c) := by rw [cell_of_row w b _ _ _ (0, 0) h]; rfl
  have HB := Lib.hid (fun (o : Obj) => (Below.refl w.heap.size w).alloc (Nat.le_refl _) o)
  go_enter Tryz.func78, Tryz.ntmps78
  go_wp2
  go_loopw [10] (fun i wr => i = .int .i64 0 ∧ wr = w) (fun i _ => 1 - (intOf i).toNat)
  case atStart => exact ⟨rfl, rfl⟩
  case round =>
    obtain ⟨rfl, rfl⟩ := hrel
    go_wp2_with fail
    refine (write_nil _ _ _ _ _).mono ?_
    rintro e w1 ⟨rfl, rfl⟩
    have hF := Lib.hid (HB.out (.cells #[.int .i64 x, .slice (some ⟨g, 0, none⟩) 256 c] 131))
    go_wp2
    go_ret
    exact ⟨rfl, hF.out⟩
set_option maxHeartbeats 800000 in
theorem format_nil (w : World) (ht : Tab w ∧ 1 < w.heap.size) : Calls Tryz.prog 31 #[.pointer none] w fun e w' => e = .returned (.int .i64 2) ∧ Below w.heap.size w w' := by
  have HM := Lib.hid (markOf_any (F := fun _ => False) 0 1 (by decide) ⟨ht.1, ht.2, fun h => h⟩)
  go_enter Tryz.func31, Tryz.ntmps31
  go_wp2_with fail
  refine HM.out.mono ?_
  rintro e w1 ⟨g, c, rfl, hc, hg, hr1, hb1⟩
  have hbk : ((w1.alloc (.cells #[.int .i64 0, .slice (some ⟨g, 0, none⟩) 256 c] 131)).alloc (.cells #[.int .i64 0, .slice (some ⟨g, 0, none⟩) 256 c] 131)).heap[w1.heap.size + 1]? = some (.cells #[.int .i64 0, .slice (some ⟨g, 0, none⟩) 256 c] 131 (0, 0)) := by
    have := heap_alloc_new (w1.alloc (.cells #[.int .i64 0, .slice (some ⟨g, 0, none⟩) 256 c] 131)) (.cells #[.int .i64 0, .slice (some ⟨g, 0, none⟩) 256 c] 131)
    simpa using this
  have hX : Below w.heap.size w ((w1.alloc (.cells #[.int .i64 0, .slice (some ⟨g, 0, none⟩) 256 c] 131)).alloc (.cells #[.int .i64 0, .slice (some ⟨g, 0, none⟩) 256 c] 131)) := (hb1.alloc hb1.size _).alloc (by have := hb1.size; simp; omega) _
  have HP := Lib.hid (put_nil hbk)
  have HX := Lib.hid hX
  clear hbk hX hr1
  go_wp2_with fail
  refine HP.out.mono ?_
  rintro e w2 ⟨rfl, hb2⟩
  have hF := Lib.hid (HX.out.trans (hb2.mono HX.out.size))
  clear hb2
  go_wp2
  go_ret
  exact ⟨rfl, hF.out⟩

end Go.Proofs.YtinhdimalhfgkaaGreatDoor

/-
  What a store on a disk answers that no call made, or whose disk was never formatted. No condition.
-/
namespace Go.Proofs.YtinhdimalhfgkaaGreatDoor
open Go.RowKit
set_option maxRecDepth 100000
set_option linter.unusedVariables false

set_option maxHeartbeats 400000 in
theorem kvMade_nil (w : World) : Calls Tryz.prog 76 #[.pointer none] w fun e w' => e = .returned (.bool false) ∧ w = w' := by
  go_enter Tryz.func76, Tryz.ntmps76
  go_wp2
  go_ret
  exact ⟨rfl, rfl⟩
set_option maxHeartbeats 400000 in
theorem kvMade_zero {w : World} {r : Nat} (h : w.cell? ⟨r, 0, none⟩ = some (.pointer none)) : Calls Tryz.prog 76 #[.pointer (some ⟨r, 0, none⟩)] w fun e w' => e = .returned (.bool false) ∧ w = w' := by
  go_enter Tryz.func76, Tryz.ntmps76
  go_wp2
  go_ret
  exact ⟨rfl, rfl⟩
/-- made says no of v, from w on. -/
def KvUn (w : World) (v : Value) : Prop := ∀ w1, Below w.heap.size w w1 → Calls Tryz.prog 76 #[v] w1 fun e w' => e = .returned (.bool false) ∧ w1 = w'
theorem KvUn.nil_ (w : World) : KvUn w (.pointer none) := fun w1 _ => kvMade_nil w1
theorem KvUn.zero_ {w : World} {r : Nat} (h : w.cell? ⟨r, 0, none⟩ = some (.pointer none)) (hr : r < w.heap.size) : KvUn w (.pointer (some ⟨r, 0, none⟩)) := fun w1 hb => kvMade_zero ((hb.cell (p := ⟨r, 0, none⟩) hr).trans h)
theorem KvUn.later {w w1 : World} {v : Value} (h : KvUn w v) (hb : Below w.heap.size w w1) : KvUn w1 v := fun w2 hb2 => h w2 (hb.trans (hb2.mono hb.size))
section
variable {w : World} {v : Value}
set_option maxHeartbeats 400000 in
theorem kvReady_un (hm : KvUn w v) : Calls Tryz.prog 68 #[v] w fun e w' => e = .returned (.int .i64 2) ∧ w = w' := by
  have HM := Lib.hid (hm w (Below.refl _ _))
  clear hm
  go_enter Tryz.func68, Tryz.ntmps68
  go_wp2_with fail
  refine HM.out.mono ?_
  rintro e w1 ⟨rfl, rfl⟩
  go_wp2
  go_ret
  exact ⟨rfl, rfl⟩
set_option maxHeartbeats 800000 in
theorem kvGet_un (hm : KvUn w v) (A : Option Addr) (n c : Nat) : Calls Tryz.prog 22 #[v, .slice A n c] w fun e w' => e = .returned (.tuple #[.slice none 0 0, .bool false, .int .i64 2]) ∧ w = w' := by
  have HM := Lib.hid (kvReady_un hm)
  clear hm
  go_enter Tryz.func22, Tryz.ntmps22
  go_wp2_with fail
  refine HM.out.mono ?_
  rintro e w1 ⟨rfl, rfl⟩
  go_wp2
  exact bodyPost_ret (v := .tuple #[.slice none 0 0, .bool false, .int .i64 2]) (by simp [results, Tryz.results22, go_sem]) rfl ⟨rfl, rfl⟩
set_option maxHeartbeats 800000 in
theorem kvScan_un (hm : KvUn w v) (A : Option Addr) (n c : Nat) : Calls Tryz.prog 23 #[v, .slice A n c] w fun e w' => e = .returned (.tuple #[.slice none 0 0, .int .i64 2]) ∧ Below w.heap.size w w' := by
  have hb : Below w.heap.size w (w.alloc (.cells #[.slice A n c] 46)) := (Below.refl _ _).alloc (Nat.le_refl _) _
  have HM := Lib.hid (kvReady_un (hm.later hb))
  have HB := Lib.hid hb
  clear hm hb
  go_enter Tryz.func23, Tryz.ntmps23
  go_wp2_with fail
  refine HM.out.mono ?_
  rintro e w1 ⟨rfl, rfl⟩
  go_wp2
  go_ret2
  exact ⟨rfl, HB.out⟩
set_option maxHeartbeats 800000 in
theorem kvWrite_un (hm : KvUn w v) (A A' : Option Addr) (n c n' c' : Nat) : Calls Tryz.prog 27 #[v, .slice A n c, .slice A' n' c'] w fun e w' => e = .returned (.int .i64 2) ∧ w = w' := by
  have HM := Lib.hid (kvReady_un hm)
  clear hm
  go_enter Tryz.func27, Tryz.ntmps27
  go_wp2_with fail
  refine HM.out.mono ?_
  rintro e w1 ⟨rfl, rfl⟩
  go_wp2
  go_ret
  exact ⟨rfl, rfl⟩
set_option maxHeartbeats 800000 in
theorem kvLen_un (hm : KvUn w v) : Calls Tryz.prog 28 #[v] w fun e w' => e = .returned (.int .i64 0) ∧ w = w' := by
  have HM := Lib.hid (kvReady_un hm)
  clear hm
  go_enter Tryz.func28, Tryz.ntmps28
  go_wp2_with fail
  refine HM.out.mono ?_
  rintro e w1 ⟨rfl, rfl⟩
  go_wp2
  go_ret
  exact ⟨rfl, rfl⟩
set_option maxHeartbeats 800000 in
theorem kvPages_un (hm : KvUn w v) : Calls Tryz.prog 29 #[v] w fun e w' => e = .returned (.int .i64 0) ∧ w = w' := by
  have HM := Lib.hid (hm w (Below.refl _ _))
  clear hm
  go_enter Tryz.func29, Tryz.ntmps29
  go_wp2_with fail
  refine HM.out.mono ?_
  rintro e w1 ⟨rfl, rfl⟩
  go_wp2
  go_ret
  exact ⟨rfl, rfl⟩
end
set_option maxHeartbeats 800000 in
/-- Format of no disk. -/
theorem kvFormat_nil (w : World) (ht : Tab w ∧ 1 < w.heap.size) : Calls Tryz.prog 26 #[.pointer none] w fun e w' => e = .returned (.tuple #[.pointer none, .int .i64 2]) ∧ Below w.heap.size w w' := by
  have HM := Lib.hid (format_nil w ht)
  clear ht
  go_enter Tryz.func26, Tryz.ntmps26
  go_wp2_with fail
  refine HM.out.mono ?_
  rintro e w1 ⟨rfl, hb1⟩
  have HB := Lib.hid hb1
  clear hb1 HM
  go_wp2
  go_ret2
  exact ⟨rfl, HB.out⟩
end Go.Proofs.YtinhdimalhfgkaaGreatDoor

/-
  Plain: what a pager has set, as a rising list of pages, and what it makes of a log; as the document says. No program.
-/
namespace Go.Proofs.YtinhdimalhfgkaaGreatDoor
open Go.RowKit
set_option maxRecDepth 100000
set_option linter.unusedVariables false

/-- What page i was set to, if it was. -/
def atL : List (Int × List Int) → Int → Option (List Int)
  | [], _ => none
  | x :: r, i => if x.1 = i then some x.2 else atL r i
/-- Page i is set to l. -/
def setL : List (Int × List Int) → Int → List Int → List (Int × List Int)
  | [], i, l => [(i, l)]
  | x :: r, i, l => if x.1 < i then x :: setL r i l else if x.1 = i then (i, l) :: r else (i, l) :: x :: r
/-- Rising. -/
def Rising (L : List (Int × List Int)) : Prop := L.Pairwise fun a b => a.1 < b.1
/-- All of it may be committed, one by one. -/
def AllSet (S : DS) (L : List (Int × List Int)) : Prop := ∀ x ∈ L, 0 ≤ x.1 ∧ x.1 < S.P ∧ x.2.length = 240 ∧ AllBytes x.2
def getPg (S : DS) (L : List (Int × List Int)) (i : Int) : List Int × Int := match atL L i with | some l => (l, 0) | none => loadS S i
def setPgE (S : DS) (i : Int) (l : List Int) : Int := if i < 0 ∨ i ≥ S.P ∨ l.length ≠ 240 then 1 else 0
def setPg (S : DS) (L : List (Int × List Int)) (i : Int) (l : List Int) : List (Int × List Int) := if i < 0 ∨ i ≥ S.P ∨ l.length ≠ 240 then L else setL L i l
def leftPg (S : DS) (seq : Int) (L : List (Int × List Int)) : List (Int × List Int) := if (commitS S seq L).1 = 0 then [] else L

section
variable {S : DS} {L : List (Int × List Int)} {i j : Int} {l : List Int}

theorem atL_setL : ∀ L : List (Int × List Int), atL (setL L i l) j = if j = i then some l else atL L j
  | [] => by
    show (if i = j then some l else none) = _
    by_cases h : j = i
    · rw [if_pos h, if_pos h.symm]
    · rw [if_neg h, if_neg (fun e => h e.symm)]; rfl
  | x :: r => by
    unfold setL
    by_cases h1 : x.1 < i
    · rw [if_pos h1]
      show (if x.1 = j then some x.2 else atL (setL r i l) j) = if j = i then some l else if x.1 = j then some x.2 else atL r j
      rw [atL_setL r]
      by_cases h2 : x.1 = j
      · rw [if_pos h2, if_pos h2, if_neg (by omega)]
      · rw [if_neg h2, if_neg h2]
    · rw [if_neg h1]
      by_cases h2 : x.1 = i
      · rw [if_pos h2]
        show (if i = j then some l else atL r j) = if j = i then some l else if x.1 = j then some x.2 else atL r j
        by_cases h3 : j = i
        · rw [if_pos h3.symm, if_pos h3]
        · rw [if_neg (fun e => h3 e.symm), if_neg h3, if_neg (by omega)]
      · rw [if_neg h2]
        show (if i = j then some l else if x.1 = j then some x.2 else atL r j) = if j = i then some l else if x.1 = j then some x.2 else atL r j
        by_cases h3 : j = i
        · rw [if_pos h3.symm, if_pos h3]
        · rw [if_neg (fun e => h3 e.symm), if_neg h3]
theorem mem_setL {x : Int × List Int} : ∀ L : List (Int × List Int), x ∈ setL L i l → x = (i, l) ∨ x ∈ L
  | [], h => .inl (List.mem_singleton.1 h)
  | y :: r, h => by
    unfold setL at h
    by_cases h1 : y.1 < i
    · rw [if_pos h1] at h
      rcases List.mem_cons.1 h with rfl | h
      · exact .inr (List.mem_cons_self ..)
      · exact (mem_setL r h).imp id (List.mem_cons_of_mem _)
    · rw [if_neg h1] at h
      by_cases h2 : y.1 = i
      · rw [if_pos h2] at h
        rcases List.mem_cons.1 h with rfl | h
        · exact .inl rfl
        · exact .inr (List.mem_cons_of_mem _ h)
      · rw [if_neg h2] at h
        rcases List.mem_cons.1 h with rfl | h
        · exact .inl rfl
        · exact .inr h
theorem Rising.set : ∀ {L : List (Int × List Int)}, Rising L → Rising (setL L i l)
  | [], _ => List.pairwise_singleton ..
  | y :: r, h => by
    have h' := List.pairwise_cons.1 h
    unfold setL
    by_cases h1 : y.1 < i
    · rw [if_pos h1]
      refine List.pairwise_cons.2 ⟨fun z hz => ?_, Rising.set h'.2⟩
      rcases mem_setL r hz with rfl | hz
      · exact h1
      · exact h'.1 z hz
    · rw [if_neg h1]
      by_cases h2 : y.1 = i
      · rw [if_pos h2]
        exact List.pairwise_cons.2 ⟨fun z hz => by have := h'.1 z hz; show i < z.1; omega, h'.2⟩
      · rw [if_neg h2]
        refine List.pairwise_cons.2 ⟨fun z hz => ?_, h⟩
        rcases List.mem_cons.1 hz with rfl | hz
        · show i < z.1; omega
        · have := h'.1 z hz; show i < z.1; omega
theorem AllSet.set (h : AllSet S L) (hi : 0 ≤ i ∧ i < S.P) (hl : l.length = 240) (hb : AllBytes l) : AllSet S (setL L i l) := fun x hx => by
  rcases mem_setL L hx with rfl | hx
  · exact ⟨hi.1, hi.2, hl, hb⟩
  · exact h x hx
theorem setPg_ok (h : Rising L) (h2 : AllSet S L) (hb : AllBytes l) : Rising (setPg S L i l) ∧ AllSet S (setPg S L i l) := by
  unfold setPg
  by_cases hc : i < 0 ∨ i ≥ S.P ∨ l.length ≠ 240
  · rw [if_pos hc]; exact ⟨h, h2⟩
  · rw [if_neg hc]
    exact ⟨h.set, h2.set (by omega) (by omega) hb⟩
theorem atL_none : ∀ {L : List (Int × List Int)}, (∀ x ∈ L, x.1 ≠ i) → atL L i = none
  | [], _ => rfl
  | x :: r, h => by
    unfold atL
    rw [if_neg (h x (List.mem_cons_self ..))]
    exact atL_none fun y hy => h y (List.mem_cons_of_mem _ hy)
theorem atL_mem : ∀ {L : List (Int × List Int)}, atL L i = some l → (i, l) ∈ L
  | [], h => by cases h
  | x :: r, h => by
    unfold atL at h
    by_cases h1 : x.1 = i
    · rw [if_pos h1] at h
      cases h
      rw [← h1]
      exact List.mem_cons_self ..
    · rw [if_neg h1] at h
      exact List.mem_cons_of_mem _ (atL_mem h)
theorem Rising.at_ : ∀ {L : List (Int × List Int)}, Rising L → (i, l) ∈ L → atL L i = some l
  | [], _, h => by cases h
  | x :: r, hr, h => by
    have h' := List.pairwise_cons.1 hr
    unfold atL
    rcases List.mem_cons.1 h with e | h
    · rw [← e, if_pos rfl]
    · have : x.1 < i := h'.1 _ h
      rw [if_neg (by omega)]
      exact Rising.at_ h'.2 h
theorem Rising.nodup (h : Rising L) : (L.map (·.1)).Nodup := by
  rw [List.nodup_iff_pairwise_ne, List.pairwise_map]
  exact h.imp fun {a b} hab => by omega
theorem Rising.right (h : Rising L) (h2 : AllSet S L) : rightS S L := ⟨fun x hx => ⟨(h2 x hx).1, (h2 x hx).2.1, (h2 x hx).2.2.1⟩, h.nodup⟩
theorem nodup_between : ∀ (N : Nat) (l : List Int), l.Nodup → (∀ x ∈ l, 0 ≤ x ∧ x < N) → l.length ≤ N
  | 0, l, _, h => by
    cases l with
    | nil => exact Nat.le_refl _
    | cons x r => have := h x (List.mem_cons_self ..); omega
  | N + 1, l, hn, h => by
    have h1 : (l.erase (N : Int)).length ≤ N := nodup_between N _ (hn.erase _) fun x hx => by
      have hx' := (hn.mem_erase_iff).1 hx
      have := h x hx'.2
      have := hx'.1
      omega
    have h2 : l.length ≤ (l.erase (N : Int)).length + 1 := by
      rw [List.length_erase]
      split <;> omega
    omega
theorem few_set (h : Rising L) (h2 : AllSet S L) : (L.length : Int) ≤ S.P := by
  have hp := pagesOf_bounds (S.n : Int)
  rcases Int.lt_or_le S.P 0 with hneg | hpos
  · cases L with
    | nil => exfalso; have := (pagesOf_nn (S.n : Int)).1; unfold DS.P at hneg; omega
    | cons x r => have := h2 x (List.mem_cons_self ..); omega
  · obtain ⟨N, hN⟩ := Int.eq_ofNat_of_zero_le hpos
    have := nodup_between N (L.map (·.1)) h.nodup fun x hx => by
      obtain ⟨y, hy, rfl⟩ := List.mem_map.1 hx
      have := h2 y hy
      omega
    rw [List.length_map] at this
    omega
end

end Go.Proofs.YtinhdimalhfgkaaGreatDoor
