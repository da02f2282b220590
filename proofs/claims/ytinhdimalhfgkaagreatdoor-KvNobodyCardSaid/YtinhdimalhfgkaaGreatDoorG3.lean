/-
  The texts Get, App, Put, NumBackP, CrcP joined. Conditions: those that each part says at its head.
-/
import Derived.Test.YtinhdimalhfgkaaGreatDoorG1
import Derived.Test.YtinhdimalhfgkaaGreatDoorG2
import Derived.Laws.AppendOwnNone
import Derived.Laws.CopyOwn
import Derived.OwnWalk
import Derived.Laws.BitsLemmas

/-
  Contracts of num.Get and of the plain Get: for any slice of bytes, any place and any size they answer the number of these bytes, or which refusal; nothing is written. Conditions: what every call has (lengths of slices are ints).
-/
namespace Go.Proofs.YtinhdimalhfgkaaGreatDoor
open Go.RowKit
set_option maxRecDepth 100000
set_option linter.unusedVariables false

/-- What Get answers: the number, and which refusal. -/
def getR (l : List Int) (a s : Int) : Int × Int :=
  if sizeB s = true ∧ 0 ≤ a then (if a > (l.length : Int) - s then (0, 3) else (numOf ((l.drop a.toNat).take s.toNat), 0)) else (0, 1)


set_option maxHeartbeats 400000 in
theorem Get_ok (A : Option Addr) (n c B : Nat) (l : List Int) (at_ : Nat) (size : Nat) (w : World) (hr : RB w B A n l) (hc : n ≤ c) (hm : n ≤ maxLen) (hs : sizeB (size : Int) = true) (hat : at_ + size ≤ n) :
    Calls Tryz.prog 137 #[.slice A n c, .int .i64 (at_ : Int), .int .i64 (size : Int)] w fun e w' => e = .returned (.tuple #[.int .i64 (numOf ((l.drop at_).take size)), .int .i64 0]) ∧ w = w' := by
  unfold maxLen at hm
  have hsz : 1 ≤ size ∧ size ≤ 8 := by rcases size_cases hs with h | h | h | h <;> omega
  obtain ⟨hsz1, hsz8⟩ := hsz
  obtain ⟨b, off, rfl, hb, hcell⟩ := hr.at_ (by omega)
  have HC := Lib.hid hcell
  have HS := Lib.hid hs
  clear hcell hs
  have k1 : decide ((at_ : Int) < 0) = false := by simp
  have k2 : decide ((at_ : Int) > (n : Int) - size) = false := by simp; omega
  go_enter Tryz.func137, Tryz.ntmps137
  go_wp2_with (go_at_call 198; refine (isSize_yes _ _ HS.out).mono ?_; rintro e w' ⟨rfl, rfl⟩)
  go_loop [8, 31] (fun x i => ∃ k : Nat, k ≤ size ∧ i = .int .i64 k ∧ x = .int .i64 (numOf ((l.drop at_).take k))) (fun _ i => size - (intOf i).toNat)
  case atStart => exact ⟨0, Nat.zero_le _, rfl, rfl⟩
  case round =>
    obtain ⟨k, hk, rfl, rfl⟩ := hrel
    by_cases hlt : k < size
    · have hcell : w.cell? ⟨b, off + at_ + k, none⟩ = some (.int .u8 (l[at_ + k]?.getD 0)) := by rw [Nat.add_assoc]; exact HC.out (at_ + k) (by omega)
      have hbd := hr.bytes.getD (at_ + k)
      obtain ⟨hb0, hb1⟩ := hbd
      have hst := Lib.hid (numOf_step l at_ k (by have := hr.len; omega))
      have hbig : k < at_ + size - at_ := by omega
      go_wp2
      go_round
      case rel => exact ⟨k + 1, by omega, by go_num, by rw [hst.out]; rfl⟩
      case measure => simp [intOf]; omega
    · have hnlt : ¬ (k < size) := hlt
      go_wp2
      go_ret2
      obtain rfl : k = size := by omega
      exact ⟨rfl, rfl⟩

set_option maxHeartbeats 400000 in
theorem Get_short (A : Option Addr) (n c : Nat) (at_ s : Int) (w : World) (hm : n ≤ maxLen) (hs : sizeB s = true) (ha : 0 ≤ at_) (hat : at_ > (n : Int) - s) :
    Calls Tryz.prog 137 #[.slice A n c, .int .i64 at_, .int .i64 s] w fun e w' => e = .returned (.tuple #[.int .i64 0, .int .i64 3]) ∧ w = w' := by
  unfold maxLen at hm
  have hsz : 1 ≤ s ∧ s ≤ 8 := by rcases size_cases hs with h | h | h | h <;> omega
  obtain ⟨hsz1, hsz8⟩ := hsz
  have HS := Lib.hid hs
  have k1 : decide (at_ < 0) = false := by simp; omega
  have k2 : decide (at_ > (n : Int) - s) = true := by simp; omega
  clear hs hat
  go_enter Tryz.func137, Tryz.ntmps137
  go_wp2_with (go_at_call 198; refine (isSize_yes _ _ HS.out).mono ?_; rintro e w' ⟨rfl, rfl⟩)
  go_ret2
  exact ⟨rfl, rfl⟩

set_option maxHeartbeats 400000 in
theorem Get_arg (A : Option Addr) (n c : Nat) (at_ s : Int) (w : World) (h : sizeB s = false ∨ at_ < 0) :
    Calls Tryz.prog 137 #[.slice A n c, .int .i64 at_, .int .i64 s] w fun e w' => e = .returned (.tuple #[.int .i64 0, .int .i64 1]) ∧ w = w' := by
  by_cases hs : sizeB s = true
  · have ha : at_ < 0 := by
      rcases h with h | h
      · rw [hs] at h; cases h
      · exact h
    have k1 : decide (at_ < 0) = true := by simp [ha]
    have HS := Lib.hid hs
    clear hs h ha
    go_enter Tryz.func137, Tryz.ntmps137
    go_wp2_with (go_at_call 198; refine (isSize_yes _ _ HS.out).mono ?_; rintro e w' ⟨rfl, rfl⟩)
    go_ret2
    exact ⟨rfl, rfl⟩
  · have hs' : sizeB s = false := by simpa using hs
    have HS := Lib.hid hs'
    clear hs hs' h
    go_enter Tryz.func137, Tryz.ntmps137
    go_wp2_with (go_at_call 198; refine (isSize_no _ _ HS.out).mono ?_; rintro e w' ⟨rfl, rfl⟩)
    go_ret2
    exact ⟨rfl, rfl⟩

theorem Get_any (A : Option Addr) (n c B : Nat) (l : List Int) (at_ s : Int) (w : World) (hr : RB w B A n l) (hc : n ≤ c) (hm : n ≤ maxLen) :
    Calls Tryz.prog 137 #[.slice A n c, .int .i64 at_, .int .i64 s] w fun e w' => e = .returned (.tuple #[.int .i64 (getR l at_ s).1, .int .i64 (getR l at_ s).2]) ∧ w = w' := by
  unfold getR
  by_cases hs : sizeB s = true ∧ 0 ≤ at_
  · rw [if_pos hs]
    obtain ⟨h1, h2⟩ := hs
    rw [hr.len]
    by_cases hat : at_ > (n : Int) - s
    · rw [if_pos hat]
      exact Get_short A n c at_ s w hm h1 h2 hat
    · rw [if_neg hat]
      obtain ⟨a, rfl⟩ := Int.eq_ofNat_of_zero_le h2
      obtain ⟨z, rfl⟩ := Int.eq_ofNat_of_zero_le (show 0 ≤ s by rcases size_cases h1 with h | h | h | h <;> omega)
      exact Get_ok A n c B l a z w hr hc hm h1 (by omega)
  · rw [if_neg hs]
    refine Get_arg A n c at_ s w ?_
    by_cases h1 : sizeB s = true
    · right
      by_cases h2 : 0 ≤ at_
      · exact absurd ⟨h1, h2⟩ hs
      · omega
    · left; simpa using h1

set_option maxHeartbeats 400000 in
theorem refGet_ok (A : Option Addr) (n c B : Nat) (l : List Int) (at_ : Nat) (size : Nat) (w : World) (hr : RB w B A n l) (hc : n ≤ c) (hm : n ≤ maxLen) (hs : sizeB (size : Int) = true) (hat : at_ + size ≤ n) :
    Calls Tryz.prog 101 #[.slice A n c, .int .i64 (at_ : Int), .int .i64 (size : Int)] w fun e w' => e = .returned (.tuple #[.int .i64 (numOf ((l.drop at_).take size)), .int .i64 0]) ∧ w = w' := by
  unfold maxLen at hm
  have hsz : 1 ≤ size ∧ size ≤ 8 := by rcases size_cases hs with h | h | h | h <;> omega
  obtain ⟨hsz1, hsz8⟩ := hsz
  obtain ⟨b, off, rfl, hb, hcell⟩ := hr.at_ (by omega)
  have HC := Lib.hid hcell
  have HS := Lib.hid hs
  clear hcell hs
  have k1 : decide ((at_ : Int) < 0) = false := by simp
  have k2 : decide ((at_ : Int) > (n : Int) - size) = false := by simp; omega
  go_enter Tryz.func101, Tryz.ntmps101
  go_wp2_with (go_at_call 167; refine (sized_yes _ _ HS.out).mono ?_; rintro e w' ⟨rfl, rfl⟩)
  go_loop [8, 9] (fun x i => ∃ k : Nat, k ≤ size ∧ i = .int .i64 k ∧ x = .int .i64 (numOf ((l.drop at_).take k))) (fun _ i => size - (intOf i).toNat)
  case atStart => exact ⟨0, Nat.zero_le _, rfl, rfl⟩
  case round =>
    obtain ⟨k, hk, rfl, rfl⟩ := hrel
    by_cases hlt : k < size
    · have hcell : w.cell? ⟨b, off + (at_ + k), none⟩ = some (.int .u8 (l[at_ + k]?.getD 0)) := by exact HC.out (at_ + k) (by omega)
      have hbd := hr.bytes.getD (at_ + k)
      obtain ⟨hb0, hb1⟩ := hbd
      have hst := Lib.hid (numOf_step l at_ k (by have := hr.len; omega))
      have hbig : at_ + k < n := by omega
      go_wp2
      go_round
      case rel => exact ⟨k + 1, by omega, by go_num, by rw [hst.out]; rfl⟩
      case measure => simp [intOf]; omega
    · have hnlt : ¬ (k < size) := hlt
      go_wp2
      go_ret2
      obtain rfl : k = size := by omega
      exact ⟨rfl, rfl⟩

set_option maxHeartbeats 400000 in
theorem refGet_short (A : Option Addr) (n c : Nat) (at_ s : Int) (w : World) (hm : n ≤ maxLen) (hs : sizeB s = true) (ha : 0 ≤ at_) (hat : at_ > (n : Int) - s) :
    Calls Tryz.prog 101 #[.slice A n c, .int .i64 at_, .int .i64 s] w fun e w' => e = .returned (.tuple #[.int .i64 0, .int .i64 3]) ∧ w = w' := by
  unfold maxLen at hm
  have hsz : 1 ≤ s ∧ s ≤ 8 := by rcases size_cases hs with h | h | h | h <;> omega
  obtain ⟨hsz1, hsz8⟩ := hsz
  have HS := Lib.hid hs
  have k1 : decide (at_ < 0) = false := by simp; omega
  have k2 : decide (at_ > (n : Int) - s) = true := by simp; omega
  clear hs hat
  go_enter Tryz.func101, Tryz.ntmps101
  go_wp2_with (go_at_call 167; refine (sized_yes _ _ HS.out).mono ?_; rintro e w' ⟨rfl, rfl⟩)
  go_ret2
  exact ⟨rfl, rfl⟩

set_option maxHeartbeats 400000 in
theorem refGet_arg (A : Option Addr) (n c : Nat) (at_ s : Int) (w : World) (h : sizeB s = false ∨ at_ < 0) :
    Calls Tryz.prog 101 #[.slice A n c, .int .i64 at_, .int .i64 s] w fun e w' => e = .returned (.tuple #[.int .i64 0, .int .i64 1]) ∧ w = w' := by
  by_cases hs : sizeB s = true
  · have ha : at_ < 0 := by
      rcases h with h | h
      · rw [hs] at h; cases h
      · exact h
    have k1 : decide (at_ < 0) = true := by simp [ha]
    have HS := Lib.hid hs
    clear hs h ha
    go_enter Tryz.func101, Tryz.ntmps101
    go_wp2_with (go_at_call 167; refine (sized_yes _ _ HS.out).mono ?_; rintro e w' ⟨rfl, rfl⟩)
    go_ret2
    exact ⟨rfl, rfl⟩
  · have hs' : sizeB s = false := by simpa using hs
    have HS := Lib.hid hs'
    clear hs hs' h
    go_enter Tryz.func101, Tryz.ntmps101
    go_wp2_with (go_at_call 167; refine (sized_no _ _ HS.out).mono ?_; rintro e w' ⟨rfl, rfl⟩)
    go_ret2
    exact ⟨rfl, rfl⟩

theorem refGet_any (A : Option Addr) (n c B : Nat) (l : List Int) (at_ s : Int) (w : World) (hr : RB w B A n l) (hc : n ≤ c) (hm : n ≤ maxLen) :
    Calls Tryz.prog 101 #[.slice A n c, .int .i64 at_, .int .i64 s] w fun e w' => e = .returned (.tuple #[.int .i64 (getR l at_ s).1, .int .i64 (getR l at_ s).2]) ∧ w = w' := by
  unfold getR
  by_cases hs : sizeB s = true ∧ 0 ≤ at_
  · rw [if_pos hs]
    obtain ⟨h1, h2⟩ := hs
    rw [hr.len]
    by_cases hat : at_ > (n : Int) - s
    · rw [if_pos hat]
      exact refGet_short A n c at_ s w hm h1 h2 hat
    · rw [if_neg hat]
      obtain ⟨a, rfl⟩ := Int.eq_ofNat_of_zero_le h2
      obtain ⟨z, rfl⟩ := Int.eq_ofNat_of_zero_le (show 0 ≤ s by rcases size_cases h1 with h | h | h | h <;> omega)
      exact refGet_ok A n c B l a z w hr hc hm h1 (by omega)
  · rw [if_neg hs]
    refine refGet_arg A n c at_ s w ?_
    by_cases h1 : sizeB s = true
    · right
      by_cases h2 : 0 ≤ at_
      · exact absurd ⟨h1, h2⟩ hs
      · omega
    · left; simpa using h1

end Go.Proofs.YtinhdimalhfgkaaGreatDoor

/-
  append of a slice of bytes (nil, empty or not) onto a row of the call's own, for the walk; what such a row is good for. Condition: fewer than 2^47 bytes in all.
-/
namespace Go.Proofs.YtinhdimalhfgkaaGreatDoor
open Go.RowKit
set_option maxRecDepth 100000
set_option linter.unusedVariables false

theorem info_u8 : (Tryz.prog.info? 5).map (fun i => (i.zero, i.size, i.bytes)) = some (some (.int .u8 0), 1, 1) := by kernel_rfl
theorem size_u8 : (Tryz.prog.info? 5).map (·.size) = some 1 := by kernel_rfl

theorem own_ge {w : World} {base e size n : Nat} {v : Value} {xs : List Value} (h : w.ownsRow base e size v n xs) : ∀ k, v.ownBlock = some k → base ≤ k := by
  intro k hk
  rcases h.2 with ⟨rfl, _⟩ | ⟨g, cap, cur, rfl, hb, _⟩
  · simp [Value.ownBlock] at hk
  · simp [Value.ownBlock] at hk; omega

theorem own_below {w0 w w' : World} {base e size n : Nat} {v : Value} {xs : List Value} (hb : Below base w0 w) (h : w.ownsRow base e size v n xs) (hg : w.grownBy w' v.ownBlock) (hB : base ≤ w.heap.size) : Below base w0 w' :=
  hb.grown hg hB (own_ge h)

/-- The shape of what owns a row. -/
theorem own_shape {w : World} {base e n : Nat} {v : Value} {xs : List Value} (h : w.ownsRow base e 1 v n xs) : ∃ A c, v = .slice A n c ∧ n ≤ c := by
  rcases h.2 with ⟨rfl, rfl⟩ | ⟨g, cap, cur, rfl, hb, _, hnc, _⟩
  · exact ⟨none, 0, rfl, Nat.le_refl _⟩
  · exact ⟨_, cap, rfl, hnc⟩

theorem run_append_none {P : Program} {w : World} (base : Nat) (t ty e : TypeId) (i : TypeInfo) (size : Nat) (ht : P.underlying t = some (.slice e)) (hi : P.info? e = some i)
    (v : Value) (n : Nat) (xs : List Value) (hown : w.ownsRow base e size v n xs) (c : Nat) :
    (Builtin.append_ #[t, t] ty #[v, .slice none 0 c]).run P w = .ok v w := by
  rcases hown.2 with ⟨rfl, rfl⟩ | ⟨g, cap, cur, rfl, _, _, hnc, _⟩
  · simp [Builtin.append_, run_underlying ht, sizeOf, typeInfo, hi, Builtin.lenOf, Builtin.firstCells]
  · simp [Builtin.append_, run_underlying ht, sizeOf, typeInfo, hi, Builtin.lenOf, Builtin.firstCells, hnc, storeCells]

theorem wpList_append_bytes {w : World} {ops : Array Oper} {rest : List Oper} {o : Oper} {a : Act} {Q : Exit → Act → World → Prop} (hgd : o.guard = none) (s x : Operand)
    (ho : o.op = .call { callee := .builtin .append, args := #[s, x], argTypes := #[46, 46] })
    (base : Nat) (v : Value) (n : Nat) (xs : List Int) (hs : a.eval s = v) (hown : w.ownsRow base 5 1 v n (xs.map (Value.int .u8)))
    (B : Nat) (A : Option Addr) (m c : Nat) (l : List Int) (hx : a.eval x = .slice A m c) (hr : RB w B A m l)
    (h63 : n + m ≤ 140737488355328) (hbase : base ≤ w.heap.size)
    (h : ∀ v' w', w'.ownsRow base 5 1 v' (n + m) ((xs ++ l).map (Value.int .u8)) → w.grownBy w' v.ownBlock → Below base w w' → wpList Tryz.prog ops Q rest (a.put o.dst v') w') : wpList Tryz.prog ops Q (o :: rest) a w := by
  obtain ⟨i0, hi, hz0, hz1, hz2⟩ := info_parts info_u8
  rcases A with _ | ad
  · have hm : m = 0 := by
      rcases Nat.eq_zero_or_pos m with h0 | h0
      · exact h0
      · obtain ⟨b, off, e, _⟩ := hr.at_ h0; cases e
    subst hm
    have hl : l = [] := List.eq_nil_of_length_eq_zero hr.len
    subst hl
    refine wpList_plain hgd fun K hK => ?_
    have hrun := run_append_none (P := Tryz.prog) (w := w) base 46 o.type 5 i0 1 Tryz.underlying46 hi v n _ hown c
    unfold Oper.wp
    simp [execOp, ho, resolve, invoke, builtin, hs, hx, hrun, Result.andThen]
    exact hK _ _ (h v w (by simpa using hown) (World.grownBy.refl w _) (Below.refl _ _))
  · refine wpList_append_own w hgd s x 46 ho base 5 i0 (.int .u8 0) 1 1 Tryz.underlying46 hi hz0 hz1 hz2 rfl (by decide) v n _ hs hown ad m c (l.map (Value.int .u8)) hx (by simp [hr.len]) ?_ (oneCell_bytes l) (by unfold maxLen; omega) (by omega) hbase ?_
    · intro j u hj
      obtain ⟨ad', e, hc⟩ := hr.src j u hj
      cases e
      exact hc
    · intro v' w' h1 h2 _
      exact h v' w' (by simpa using h1) h2 ((Below.refl base w).grown h2 hbase (own_ge hown))

/-- What owns a row reads as it. -/
theorem read_own {w : World} {base e n : Nat} {v : Value} {l : List Int} (h : w.ownsRow base e 1 v n (l.map (Value.int .u8))) (hl : AllBytes l) : ∃ A c, v = .slice A n c ∧ n ≤ c ∧ RB w w.heap.size A n l := by
  obtain ⟨A, c, rfl, hc⟩ := own_shape h
  exact ⟨A, c, rfl, hc, RB.of_own h hl⟩

theorem own_base_le {w : World} {base base' e size n : Nat} {v : Value} {xs : List Value} (h : w.ownsRow base e size v n xs) (hb : base' ≤ base) : w.ownsRow base' e size v n xs := by
  rcases h.2 with h' | ⟨g, cap, cur, hv, hg, h3⟩
  · exact ⟨h.1, .inl h'⟩
  · exact ⟨h.1, .inr ⟨g, cap, cur, hv, Nat.le_trans hb hg, h3⟩⟩

/-- What owned a row owns it still where all that was there stands. -/
theorem own_later {w w' : World} {base e size n : Nat} {v : Value} {xs : List Value} (h : w.ownsRow base e size v n xs) (hb : Below w.heap.size w w') : w'.ownsRow base e size v n xs := by
  rcases h.2 with h' | ⟨g, cap, cur, hv, hg, hh, h3⟩
  · exact ⟨h.1, .inl h'⟩
  · have hlt : g < w.heap.size := by
      rcases Nat.lt_or_ge g w.heap.size with h' | h'
      · exact h'
      · rw [Array.getElem?_eq_none h'] at hh; cases hh
    exact ⟨h.1, .inr ⟨g, cap, cur, hv, hg, (hb.block g hlt).trans hh, h3⟩⟩

end Go.Proofs.YtinhdimalhfgkaaGreatDoor

/-
  Contracts of num.Put and of the plain Put: for any slice of bytes, any number and any size the answer is a new slice of these bytes, behind them the number's bytes, or nothing more where the number does not fit; nothing that was there is written. Condition: fewer than 2^47 - 8 bytes.
-/
namespace Go.Proofs.YtinhdimalhfgkaaGreatDoor
open Go.RowKit
set_option maxRecDepth 100000
set_option linter.unusedVariables false


theorem made_block {w : World} {base e g n : Nat} {xs : List Value} (h : w.ownsRow base e 1 (.slice (some ⟨g, 0, none⟩) n n) n xs) : w.heap[g]? = some (.cells xs.toArray e (0, 0)) := by
  rcases h.2 with ⟨h', _⟩ | ⟨g', cap', cur, h', _, hg, _, _, hcs, htake⟩
  · simp at h'
  · simp only [Value.slice.injEq, Option.some.injEq, Addr.mk.injEq, and_true, true_and] at h'
    obtain ⟨rfl, rfl⟩ := h'
    rw [← htake, List.take_of_length_le (by simp; omega)]
    simpa using hg

theorem made_u8 {w : World} {base e g n : Nat} (h : w.ownsRow base e 1 (.slice (some ⟨g, 0, none⟩) n n) n (madeCells (Value.int .u8 0).cells (n * 1)).toList) : w.heap[g]? = some (.cells (List.replicate n (Value.int .u8 0)).toArray e (0, 0)) := by
  have := made_block h
  rw [show (Value.int .u8 0).cells = #[Value.int .u8 0] from rfl, toList_madeCells_one, Nat.mul_one] at this
  exact this

theorem copy_src {w : World} {B n : Nat} {A : Option Addr} {l : List Int} (h : RB w B A n l) (hp : 0 < (l.map (Value.int .u8)).length) : ∃ ad, A = some ad ∧ ∀ j v, (l.map (Value.int .u8))[j]? = some v → w.cell? (ad.add j) = some v := by
  obtain ⟨ad, rfl, _⟩ := h.src 0 _ (List.getElem?_eq_getElem hp)
  refine ⟨ad, rfl, fun j v hv => ?_⟩
  obtain ⟨ad', e, hc⟩ := h.src j v hv
  cases e
  exact hc

/-- The block while it is filled: j of k bytes stand already, the last ones. -/
def fill (l : List Int) (x : Int) (k j : Nat) (e : TypeId) : Obj := .cells ((l ++ (List.replicate (k - j) 0 ++ putB x j)).map (Value.int .u8)).toArray e (0, 0)

theorem fill_start {w : World} {g n k : Nat} {e : TypeId} {l : List Int} {x : Int} (hl : l.length = n) (h : w.heap[g]? = some (.cells (splice (List.replicate (n + k) (Value.int .u8 0)) 0 (l.map (Value.int .u8))).toArray e (0, 0))) : w.heap[g]? = some (fill l x k 0 e) := by
  rw [h]
  subst hl
  simp [fill, splice, putB, List.drop_replicate]
theorem fill_frozen {w : World} {g : Nat} {e : TypeId} {l : List Int} {x : Int} {k j m : Nat} (h : w.heap[g]? = some (fill l x k j e)) : w.frozen? ⟨g, m, none⟩ = false := by
  unfold fill at h
  simp [World.frozen?, h]
theorem fill_length (l : List Int) (x : Int) {k j : Nat} (hj : j ≤ k) : (l ++ (List.replicate (k - j) 0 ++ putB x j)).length = l.length + k := by
  simp [putB_length]; omega
theorem fill_cell {w : World} {g n : Nat} {e : TypeId} {l : List Int} {x : Int} {k j : Nat} (hl : l.length = n) (h : w.heap[g]? = some (fill l x k j e)) (m : Nat) (hm : m < n + k ∧ j ≤ k) : ∃ u, w.cell? ⟨g, m, none⟩ = some u := by
  unfold fill at h
  rw [cell_of_row w g m _ e (0, 0) h]
  have := fill_length l x hm.2
  exact ⟨_, Array.getElem?_eq_getElem (by simp only [List.size_toArray, List.length_map]; omega)⟩

theorem fill_step {w : World} {g n : Nat} {e : TypeId} {l : List Int} {x : Int} {k j m : Nat} (hl : l.length = n) (h : w.heap[g]? = some (fill l x k j e)) (hj : j < k) (hm : m + j + 1 = n + k) :
    (w.setCell ⟨g, m, none⟩ (.int .u8 (shN x j % 256))).heap[g]? = some (fill l x k (j + 1) e) := by
  unfold fill at h ⊢
  rw [heap_setCell_same w g m _ e _ h]
  subst hl
  obtain ⟨d, rfl⟩ : ∃ d, k = j + 1 + d := ⟨k - (j + 1), by omega⟩
  have e1 : j + 1 + d - j = d + 1 := by omega
  have e2 : j + 1 + d - (j + 1) = d := by omega
  obtain rfl : m = l.length + d := by omega
  rw [e1, e2, putB_front]
  congr 2
  rw [← Array.toList_inj]
  simp only [Array.toList_setIfInBounds, List.map_append, List.map_cons, List.map_replicate]
  rw [List.replicate_succ', List.append_assoc, List.set_append_right _ _ (by simp), List.set_append_right _ _ (by simp)]
  simp
theorem fill_end {w : World} {g : Nat} {e : TypeId} {l : List Int} {x : Int} {k : Nat} (h : w.heap[g]? = some (fill l x k k e)) : w.heap[g]? = some (.cells ((l ++ putB x k).map (Value.int .u8)).toArray e (0, 0)) := by
  rw [h]; simp [fill]

set_option maxHeartbeats 800000 in
theorem Put_yes (A : Option Addr) (n c B : Nat) (l : List Int) (x : Int) (k : Nat) (w : World) (hr : RB w B A n l) (hB : B ≤ w.heap.size) (hc : n ≤ c) (hm : n ≤ 140737488355000) (hs : rightB x (k : Int) = true) (hk8 : k ≤ 8) (hxl : -9223372036854775808 ≤ x) (hxh : x ≤ 9223372036854775807) :
    Calls Tryz.prog 192 #[.slice A n c, .int .i64 x, .int .i64 (k : Int)] w fun e w' => ∃ g, e = .returned (.slice (some ⟨g, 0, none⟩) (n + k) (n + k)) ∧ w.heap.size ≤ g ∧ w'.heap[g]? = some (.cells ((l ++ putB x k).map (Value.int .u8)).toArray 5 (0, 0)) ∧ Below w.heap.size w w' := by
  obtain ⟨i0, hi, hz0, hz1, hz2⟩ := info_parts info_u8
  have HS := Lib.hid hs
  clear hs
  go_enter Tryz.func192, Tryz.ntmps192
  go_wp2_with (first
    | (go_at_call 199; refine (Right_yes _ _ _ HS.out).mono ?_; rintro e w' ⟨rfl, rfl⟩)
    | (refine wpList_make_full w rfl _ _ 46 rfl w.heap.size 5 i0 (.int .u8 0) 1 Tryz.underlying46 hi hz0 hz1 .i64 .i64 _ _ (n + k) rfl rfl (by simp) (by simp) (by rw [hz2]; omega) (by unfold maxLen; omega) (Nat.le_refl _) ?_; intro w1 hown1 hg1; have hb1 : Below w.heap.size w w1 := (Below.refl _ _).grown hg1 (Nat.le_refl _) (by simp); have hblk1 := Lib.hid (made_u8 hown1); clear hown1 hg1)
    | (with_reducible refine wpList_copy_splice rfl (.tmp 18) (.tmp 19) 46 46 rfl 5 Tryz.underlying46 size_u8 _ _ _ _ _ _ rfl rfl w.heap.size 0 (List.replicate (n + k) (Value.int .u8 0)) 5 hblk1.out (l.map (Value.int .u8)) (by rw [List.length_map, hr.len]; exact (Nat.min_eq_left (by omega)).symm) (fun hp => ⟨rfl, copy_src (hr.below (hb1.mono hB)) hp⟩) (by rw [List.length_map, List.length_replicate, hr.len]; omega) (oneCell_bytes l) w.heap.size w hb1 (Nat.le_refl _) ?_; intro w2 hblk2 hb2))
  have hblk := Lib.hid (fill_start (x := x) hr.len hblk2.out)
  clear hblk2 hblk1 hb1
  go_loopw [1, 8] (fun xn i wr => ∃ (j : Nat) (z : Int), j ≤ k ∧ z + j + 1 ≤ n + k ∧ (n : Int) + k ≤ z + j + 1 ∧ i = .int .i64 z ∧ xn = .int .i64 (shN x j) ∧ Hid (wr.heap[w.heap.size]? = some (fill l x k j 5)) ∧ Below w.heap.size w wr)
    (fun _ i _ => (intOf i + 1 - (n : Int)).toNat)
  case atStart => exact ⟨0, _, Nat.zero_le _, by omega, by omega, rfl, rfl, hblk, hb2⟩
  case round =>
    obtain ⟨j, z, hj, hz1, hz2, rfl, rfl, hblkj, hbj⟩ := hrel
    clear hblk
    by_cases hlt : j < k
    · obtain ⟨m, rfl⟩ := Int.eq_ofNat_of_zero_le (show 0 ≤ z by omega)
      have hfz : wr.frozen? ⟨w.heap.size, m, none⟩ = false := fill_frozen hblkj.out
      obtain ⟨u, hu⟩ := fill_cell hr.len hblkj.out m ⟨by omega, by omega⟩
      obtain ⟨hx0, hx1⟩ := shN_bounds x hxl hxh j
      have hnm : n ≤ m := by omega
      have hmk : m < n + k := by omega
      go_wp2
      have hstep := Lib.hid (fill_step hr.len hblkj.out hlt (m := m) (by omega))
      clear hu hfz hblkj
      go_roundw
      case rel => exact ⟨j + 1, _, by omega, by omega, by omega, rfl, rfl, hstep, hbj.setCell (Nat.le_refl _) _⟩
      case measure => simp [intOf]; omega
    · have hjk : j = k := by omega
      subst hjk
      have hend := Lib.hid (fill_end hblkj.out)
      have hzn : z < n := by omega
      clear hblkj
      go_wp2
      go_ret
      exact ⟨_, rfl, Nat.le_refl _, hend.out, hbj⟩

theorem fill_start0 {w : World} {g n : Nat} {e : TypeId} {l : List Int} (hl : l.length = n) (h : w.heap[g]? = some (.cells (splice (List.replicate n (Value.int .u8 0)) 0 (l.map (Value.int .u8))).toArray e (0, 0))) : w.heap[g]? = some (.cells (l.map (Value.int .u8)).toArray e (0, 0)) := by
  rw [h]
  subst hl
  simp [splice]

set_option maxHeartbeats 800000 in
theorem Put_no (A : Option Addr) (n c B : Nat) (l : List Int) (x s : Int) (w : World) (hr : RB w B A n l) (hB : B ≤ w.heap.size) (hc : n ≤ c) (hm : n ≤ 140737488355000) (hs : rightB x s = false) :
    Calls Tryz.prog 192 #[.slice A n c, .int .i64 x, .int .i64 s] w fun e w' => ∃ g, e = .returned (.slice (some ⟨g, 0, none⟩) n n) ∧ w.heap.size ≤ g ∧ w'.heap[g]? = some (.cells (l.map (Value.int .u8)).toArray 5 (0, 0)) ∧ Below w.heap.size w w' := by
  obtain ⟨i0, hi, hz0, hz1, hz2⟩ := info_parts info_u8
  have HS := Lib.hid hs
  clear hs
  go_enter Tryz.func192, Tryz.ntmps192
  go_wp2_with (first
    | (go_at_call 199; refine (Right_no _ _ _ HS.out).mono ?_; rintro e w' ⟨rfl, rfl⟩)
    | (refine wpList_make_full w rfl _ _ 46 rfl w.heap.size 5 i0 (.int .u8 0) 1 Tryz.underlying46 hi hz0 hz1 .i64 .i64 _ _ n rfl rfl (by simp) (by simp) (by rw [hz2]; omega) (by unfold maxLen; omega) (Nat.le_refl _) ?_; intro w1 hown1 hg1; have hb1 : Below w.heap.size w w1 := (Below.refl _ _).grown hg1 (Nat.le_refl _) (by simp); have hblk1 := Lib.hid (made_u8 hown1); clear hown1 hg1)
    | (with_reducible refine wpList_copy_splice rfl (.tmp 18) (.tmp 19) 46 46 rfl 5 Tryz.underlying46 size_u8 _ _ _ _ _ _ rfl rfl w.heap.size 0 (List.replicate n (Value.int .u8 0)) 5 hblk1.out (l.map (Value.int .u8)) (by rw [List.length_map, hr.len]; exact (Nat.min_eq_left (by omega)).symm) (fun hp => ⟨rfl, copy_src (hr.below (hb1.mono hB)) hp⟩) (by rw [List.length_map, List.length_replicate, hr.len]; omega) (oneCell_bytes l) w.heap.size w hb1 (Nat.le_refl _) ?_; intro w2 hblk2 hb2))
  have hblk := Lib.hid (fill_start0 hr.len hblk2.out)
  clear hblk2 hblk1 hb1
  refine wp_loop_rounds 1 ?_
  rw [rounds_succ]
  go_wp2
  go_ret
  exact ⟨_, rfl, Nat.le_refl _, hblk.out, hb2⟩

/-- What Put answers. -/
def putR (l : List Int) (x s : Int) : List Int := if rightB x s = true then l ++ putB x s.toNat else l

theorem right_size {x s : Int} (h : rightB x s = true) : s = 1 ∨ s = 2 ∨ s = 4 ∨ s = 8 := by
  by_cases hs : sizeB s = true
  · exact size_cases hs
  · rw [rightB_none (by simpa using hs)] at h; cases h

/-- A new slice that is just these bytes. -/
def Fresh (w w' : World) (e : TypeId) (v : Value) (l : List Int) : Prop := ∃ g, v = .slice (some ⟨g, 0, none⟩) l.length l.length ∧ w.heap.size ≤ g ∧ w'.heap[g]? = some (.cells (l.map (Value.int .u8)).toArray e (0, 0))

theorem Put_any (A : Option Addr) (n c B : Nat) (l : List Int) (x s : Int) (w : World) (hr : RB w B A n l) (hB : B ≤ w.heap.size) (hc : n ≤ c) (hm : n ≤ 140737488355000) (hxl : -9223372036854775808 ≤ x) (hxh : x ≤ 9223372036854775807) :
    Calls Tryz.prog 192 #[.slice A n c, .int .i64 x, .int .i64 s] w fun e w' => ∃ v, e = .returned v ∧ Fresh w w' 5 v (putR l x s) ∧ Below w.heap.size w w' := by
  unfold putR
  by_cases h : rightB x s = true
  · rw [if_pos h]
    have hc4 := right_size h
    obtain ⟨k, rfl⟩ := Int.eq_ofNat_of_zero_le (show 0 ≤ s by omega)
    refine (Put_yes A n c B l x k w hr hB hc hm h (by omega) hxl hxh).mono ?_
    rintro e w' ⟨g, rfl, h1, h2, h3⟩
    refine ⟨_, rfl, ⟨g, ?_, h1, h2⟩, h3⟩
    simp [putB_length, hr.len]
  · rw [if_neg h]
    refine (Put_no A n c B l x s w hr hB hc hm (by simpa using h)).mono ?_
    rintro e w' ⟨g, rfl, h1, h2, h3⟩
    exact ⟨_, rfl, ⟨g, by rw [hr.len], h1, h2⟩, h3⟩

theorem Fresh.own {w w' : World} {e : TypeId} {v : Value} {l : List Int} (h : Fresh w w' e v l) (hm : l.length ≤ maxLen) : w'.ownsRow w.heap.size e 1 v l.length (l.map (Value.int .u8)) := by
  obtain ⟨g, rfl, hb, hg⟩ := h
  exact ⟨by simp, .inr ⟨g, l.length, _, rfl, hb, hg, Nat.le_refl _, hm, by simp, by rw [Nat.mul_one]; exact List.take_of_length_le (by simp)⟩⟩

theorem putR_length (l : List Int) (x s : Int) : (putR l x s).length ≤ l.length + 8 := by
  unfold putR
  by_cases h : rightB x s = true
  · rw [if_pos h, List.length_append, putB_length]
    have := right_size h
    omega
  · rw [if_neg h]; omega

/-- num.Put answers a row of its own. -/
theorem Put_own (A : Option Addr) (n c B : Nat) (l : List Int) (x s : Int) (w : World) (hr : RB w B A n l) (hB : B ≤ w.heap.size) (hc : n ≤ c) (hm : n ≤ 140737488355000) (hxl : -9223372036854775808 ≤ x) (hxh : x ≤ 9223372036854775807) :
    Calls Tryz.prog 192 #[.slice A n c, .int .i64 x, .int .i64 s] w fun e w' => ∃ v, e = .returned v ∧ w'.ownsRow w.heap.size 5 1 v (putR l x s).length ((putR l x s).map (Value.int .u8)) ∧ Below w.heap.size w w' := by
  refine (Put_any A n c B l x s w hr hB hc hm hxl hxh).mono ?_
  rintro e w' ⟨v, rfl, hf, hb⟩
  have := putR_length l x s
  have := hr.len
  exact ⟨v, rfl, hf.own (by unfold maxLen; omega), hb⟩

end Go.Proofs.YtinhdimalhfgkaaGreatDoor

/-
  Plain: a number that Put put is what Get gets. Condition: the number is an int.
-/
namespace Go.Proofs.YtinhdimalhfgkaaGreatDoor
open Go.RowKit
set_option maxRecDepth 100000
set_option linter.unusedVariables false

theorem wrap_putB {x s : Int} (h : rightB x s = true) (hxl : -9223372036854775808 ≤ x) (hxh : x ≤ 9223372036854775807) : numOf (putB x s.toNat) = x := by
  rw [numOf_eq _ (putB_bytes _ _), beOf_putB]
  rcases right_size h with rfl | rfl | rfl | rfl
  · have hb : 0 ≤ x ∧ x < 256 := by simpa [rightB] using h
    rw [show (256 : Int) ^ (1 : Int).toNat = 256 from rfl]
    unfold wrap64; omega
  · have hb : 0 ≤ x ∧ x < 65536 := by simpa [rightB] using h
    rw [show (256 : Int) ^ (2 : Int).toNat = 65536 from rfl]
    unfold wrap64; omega
  · have hb : 0 ≤ x ∧ x < 4294967296 := by simpa [rightB] using h
    rw [show (256 : Int) ^ (4 : Int).toNat = 4294967296 from rfl]
    unfold wrap64; omega
  · rw [show (256 : Int) ^ (8 : Int).toNat = 18446744073709551616 from rfl]
    unfold wrap64; omega

theorem get_put {l : List Int} {x s : Int} (h : rightB x s = true) (hxl : -9223372036854775808 ≤ x) (hxh : x ≤ 9223372036854775807) : getR (putR l x s) (l.length : Int) s = (x, 0) := by
  have hs : sizeB s = true := by
    rcases right_size h with rfl | rfl | rfl | rfl <;> decide
  obtain ⟨k, rfl⟩ := Int.eq_ofNat_of_zero_le (show 0 ≤ s by rcases right_size h with h | h | h | h <;> omega)
  have hn := wrap_putB h hxl hxh
  unfold getR putR
  rw [if_pos h, if_pos ⟨hs, by omega⟩, if_neg (by simp [putB_length])]
  simp only [Int.toNat_natCast] at hn ⊢
  rw [List.drop_left, List.take_of_length_le (by rw [putB_length]; exact Nat.le_refl _), hn]

end Go.Proofs.YtinhdimalhfgkaaGreatDoor

/-
  Plain arithmetic of the sum: one bit's step, eight of them, four of them by a table; a step loses nothing, so a byte that is changed changes the sum. No program, no condition beyond 32 bits.
-/
namespace Go.Proofs.YtinhdimalhfgkaaGreatDoor
set_option maxRecDepth 100000

/-- One bit's step. -/
def bit1 (x : Nat) : Nat := if x % 2 = 1 then (x / 2) ^^^ 3988292384 else x / 2
/-- One byte's step. -/
def stepB (s c : Nat) : Nat := bit1 (bit1 (bit1 (bit1 (bit1 (bit1 (bit1 (bit1 (s ^^^ c))))))))
/-- Four bits' steps, of four bits. -/
def tab4 : List Nat := [0, 498536548, 997073096, 651767980, 1994146192, 1802195444, 1303535960, 1342533948, 3988292384, 4027552580, 3604390888, 3412177804, 2607071920, 2262029012, 2685067896, 3183342108]
/-- Four bits' steps, by the table. -/
def nib (x : Nat) : Nat := (x / 16) ^^^ (tab4[x % 16]?.getD 0)
/-- The steps of some bytes. -/
def runB (s : Nat) (l : List Nat) : Nat := l.foldl stepB s

theorem xor_half (a b : Nat) : (a ^^^ b) / 2 = a / 2 ^^^ b / 2 := by
  have := Nat.shiftRight_xor_distrib (a := a) (b := b) (i := 1)
  simpa [Nat.shiftRight_succ] using this
theorem xor_parity (a b : Nat) : (a ^^^ b) % 2 = (a + b) % 2 := by
  have h := Nat.xor_mod_two_pow (a := a) (b := b) (n := 1)
  simp only [Nat.pow_one] at h
  rw [h]
  rcases Nat.mod_two_eq_zero_or_one a with ha | ha <;> rcases Nat.mod_two_eq_zero_or_one b with hb | hb <;> rw [ha, hb]
  · rw [show (a + b) % 2 = 0 from by omega]; rfl
  · rw [show (a + b) % 2 = 1 from by omega]; rfl
  · rw [show (a + b) % 2 = 1 from by omega]; rfl
  · rw [show (a + b) % 2 = 0 from by omega]; rfl

theorem bit1_xor (a b : Nat) : bit1 (a ^^^ b) = bit1 a ^^^ bit1 b := by
  unfold bit1
  rw [xor_parity, xor_half]
  rcases Nat.mod_two_eq_zero_or_one a with ha | ha <;> rcases Nat.mod_two_eq_zero_or_one b with hb | hb
  · rw [if_neg (by omega), if_neg (by omega), if_neg (by omega)]
  · rw [if_pos (by omega), if_neg (by omega), if_pos hb, Nat.xor_assoc]
  · rw [if_pos (by omega), if_pos ha, if_neg (by omega), Nat.xor_assoc, Nat.xor_assoc, Nat.xor_comm (b / 2)]
  · rw [if_neg (by omega), if_pos ha, if_pos hb]
    rw [Nat.xor_assoc, Nat.xor_comm 3988292384, Nat.xor_assoc, Nat.xor_self, Nat.xor_zero]

theorem bit1_even (q : Nat) : bit1 (2 * q) = q := by
  unfold bit1
  rw [if_neg (by omega)]
  omega

theorem nib_eq (x : Nat) : nib x = bit1 (bit1 (bit1 (bit1 x))) := by
  have hx : x = (16 * (x / 16)) ^^^ (x % 16) := by
    have h := Nat.two_pow_add_eq_or_of_lt (i := 4) (b := x % 16) (by omega) (x / 16)
    have h2 : 16 * (x / 16) ^^^ x % 16 = 16 * (x / 16) ||| x % 16 := by
      apply Nat.eq_of_testBit_eq
      intro i
      rw [Nat.testBit_xor, Nat.testBit_or]
      rcases Nat.lt_or_ge i 4 with hi | hi
      · have : (16 * (x / 16)).testBit i = false := by
          have := Nat.testBit_two_pow_mul (i := 4) (a := x / 16) (j := i)
          simp only [show (2 : Nat) ^ 4 = 16 from rfl] at this
          rw [this]; simp; omega
        rw [this]; simp
      · have : (x % 16).testBit i = false := Nat.testBit_lt_two_pow (Nat.lt_of_lt_of_le (show x % 16 < 2 ^ 4 by omega) (Nat.pow_le_pow_right (by decide) hi))
        rw [this]; simp
    rw [h2, ← show (2 : Nat) ^ 4 = 16 from rfl, ← h]
    omega
  have hlow : ∀ r, r < 16 → bit1 (bit1 (bit1 (bit1 r))) = tab4[r]?.getD 0 := by decide
  have hhigh : bit1 (bit1 (bit1 (bit1 (16 * (x / 16))))) = x / 16 := by
    rw [show 16 * (x / 16) = 2 * (8 * (x / 16)) from by omega, bit1_even, show 8 * (x / 16) = 2 * (4 * (x / 16)) from by omega, bit1_even,
      show 4 * (x / 16) = 2 * (2 * (x / 16)) from by omega, bit1_even, bit1_even]
  conv => rhs; rw [hx]
  rw [bit1_xor, bit1_xor, bit1_xor, bit1_xor, hhigh, hlow _ (by omega)]
  rfl

theorem stepB_nib (s c : Nat) : stepB s c = nib (nib (s ^^^ c)) := by
  rw [nib_eq, nib_eq]; rfl

theorem bit1_lt {x : Nat} (h : x < 4294967296) : bit1 x < 4294967296 := by
  unfold bit1
  split
  · exact Nat.xor_lt_two_pow (n := 32) (by omega) (by decide)
  · omega
theorem xor_lt {a b : Nat} (ha : a < 4294967296) (hb : b < 4294967296) : a ^^^ b < 4294967296 := Nat.xor_lt_two_pow (n := 32) ha hb
theorem stepB_lt {s c : Nat} (hs : s < 4294967296) (hc : c < 4294967296) : stepB s c < 4294967296 :=
  bit1_lt (bit1_lt (bit1_lt (bit1_lt (bit1_lt (bit1_lt (bit1_lt (bit1_lt (xor_lt hs hc))))))))
theorem runB_lt {l : List Nat} (hl : ∀ c ∈ l, c < 256) {s : Nat} (hs : s < 4294967296) : runB s l < 4294967296 := by
  induction l generalizing s with
  | nil => exact hs
  | cons c l ih => exact ih (fun d hd => hl d (List.mem_cons_of_mem _ hd)) (stepB_lt hs (by have := hl c (List.mem_cons_self ..); omega))

/-- The bit that leaves stands in the highest place: nothing is lost. -/
theorem bit1_inj {x y : Nat} (hx : x < 4294967296) (hy : y < 4294967296) (h : bit1 x = bit1 y) : x = y := by
  have high : ∀ a, a < 2147483648 → 2147483648 ≤ a ^^^ 3988292384 := by
    intro a ha
    have ht : (a ^^^ 3988292384).testBit 31 = true := by
      rw [Nat.testBit_xor, Nat.testBit_lt_two_pow (show a < 2 ^ 31 from ha)]
      decide
    exact Nat.ge_two_pow_of_testBit ht
  have cancel : ∀ a b : Nat, a ^^^ 3988292384 = b ^^^ 3988292384 → a = b := by
    intro a b e
    have := congrArg (· ^^^ 3988292384) e
    simpa [Nat.xor_assoc] using this
  unfold bit1 at h
  by_cases h1 : x % 2 = 1 <;> by_cases h2 : y % 2 = 1
  · rw [if_pos h1, if_pos h2] at h
    have := cancel _ _ h
    omega
  · rw [if_pos h1, if_neg h2] at h
    have := high (x / 2) (by omega)
    omega
  · rw [if_neg h1, if_pos h2] at h
    have := high (y / 2) (by omega)
    omega
  · rw [if_neg h1, if_neg h2] at h
    omega

theorem stepB_inj {x y : Nat} (c d : Nat) (hx : x < 4294967296) (hy : y < 4294967296) (hc : c < 4294967296) (hd : d < 4294967296) (h : stepB x c = stepB y d) : x ^^^ c = y ^^^ d := by
  have a := xor_lt hx hc
  have b := xor_lt hy hd
  unfold stepB at h
  exact bit1_inj a b (bit1_inj (bit1_lt a) (bit1_lt b) (bit1_inj (bit1_lt (bit1_lt a)) (bit1_lt (bit1_lt b)) (bit1_inj (bit1_lt (bit1_lt (bit1_lt a))) (bit1_lt (bit1_lt (bit1_lt b)))
    (bit1_inj (bit1_lt (bit1_lt (bit1_lt (bit1_lt a)))) (bit1_lt (bit1_lt (bit1_lt (bit1_lt b)))) (bit1_inj (bit1_lt (bit1_lt (bit1_lt (bit1_lt (bit1_lt a))))) (bit1_lt (bit1_lt (bit1_lt (bit1_lt (bit1_lt b)))))
      (bit1_inj (bit1_lt (bit1_lt (bit1_lt (bit1_lt (bit1_lt (bit1_lt a)))))) (bit1_lt (bit1_lt (bit1_lt (bit1_lt (bit1_lt (bit1_lt b)))))) (bit1_inj (bit1_lt (bit1_lt (bit1_lt (bit1_lt (bit1_lt (bit1_lt (bit1_lt a))))))) (bit1_lt (bit1_lt (bit1_lt (bit1_lt (bit1_lt (bit1_lt (bit1_lt b))))))) h)))))))

theorem xor_right_inj {x y c : Nat} (h : x ^^^ c = y ^^^ c) : x = y := by
  have := congrArg (· ^^^ c) h
  simpa [Nat.xor_assoc] using this
theorem xor_left_inj {s c d : Nat} (h : s ^^^ c = s ^^^ d) : c = d := by
  rw [Nat.xor_comm s, Nat.xor_comm s] at h
  exact xor_right_inj h

theorem runB_inj {l : List Nat} (hl : ∀ c ∈ l, c < 256) {x y : Nat} (hx : x < 4294967296) (hy : y < 4294967296) (h : runB x l = runB y l) : x = y := by
  induction l generalizing x y with
  | nil => exact h
  | cons c l ih =>
    have hc : c < 4294967296 := by have := hl c (List.mem_cons_self ..); omega
    have := ih (fun d hd => hl d (List.mem_cons_of_mem _ hd)) (stepB_lt hx hc) (stepB_lt hy hc) h
    exact xor_right_inj (stepB_inj c c hx hy hc hc this)

/-- A byte that is changed changes the sum. -/
theorem runB_changed {l : List Nat} (hl : ∀ c ∈ l, c < 256) {s : Nat} (hs : s < 4294967296) (i : Nat) (hi : i < l.length) (d : Nat) (hd : d < 256) (hne : l[i] ≠ d) : runB s l ≠ runB s (l.set i d) := by
  induction l generalizing s i with
  | nil => simp at hi
  | cons c l ih =>
    have hc : c < 4294967296 := by have := hl c (List.mem_cons_self ..); omega
    have hl' : ∀ c ∈ l, c < 256 := fun d hd => hl d (List.mem_cons_of_mem _ hd)
    cases i with
    | zero =>
      intro h
      have h' : runB (stepB s c) l = runB (stepB s d) l := h
      have := runB_inj hl' (stepB_lt hs hc) (stepB_lt hs (by omega)) h'
      exact hne (xor_left_inj (stepB_inj c d hs hs hc (by omega) this))
    | succ i => exact ih hl' (stepB_lt hs hc) i (by simpa using hi) (by simpa using hne)

end Go.Proofs.YtinhdimalhfgkaaGreatDoor
