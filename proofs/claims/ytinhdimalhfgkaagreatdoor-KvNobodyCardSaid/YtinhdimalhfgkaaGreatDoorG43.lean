/-
  The texts TxtP, Bcmp, SortP, ExvB, ExvC joined. Conditions: those that each part says at its head.
-/
import Derived.Test.YtinhdimalhfgkaaGreatDoorG1
import Derived.Test.YtinhdimalhfgkaaGreatDoorG42
import Derived.Test.YtinhdimalhfgkaaGreatDoorG26
import Derived.Lib.BytesEntry
import Derived.Laws.Externs
import Derived.Lib.Walk
import Derived.Lib.Strings
import Derived.Lib.Slices
import Derived.Laws.Strings3
import Derived.Shelf.SlSortCmp.WholeK
import Derived.Shelf.SlSortCmp.NoneTotal
import Derived.Test.YtinhdimalhfgkaaGreatDoorProg
import Derived.Deep.OwnRows

/-
  Texts as lists of bytes, and lists that rise by texts: what stands at a text, put, taken away; two rising lists with the same at each text are one. Plain facts; no condition beyond what each says.
-/
namespace Go.Proofs.YtinhdimalhfgkaaGreatDoor
set_option linter.unusedVariables false

/-- A text. -/
abbrev Txt := List UInt8
/-- A text of some bytes; a text's bytes. -/
def tx (l : List Int) : Txt := l.map fun n => UInt8.ofNat n.toNat
def by_ (x : Txt) : List Int := x.map fun u => (u.toNat : Int)
theorem tx_by (x : Txt) : tx (by_ x) = x := by
  unfold tx by_
  rw [List.map_map]
  conv => rhs; rw [← List.map_id x]
  refine List.map_congr_left fun u _ => ?_
  simp
theorem by_tx {l : List Int} (h : AllBytes l) : by_ (tx l) = l := by
  unfold tx by_
  rw [List.map_map]
  conv => rhs; rw [← List.map_id l]
  refine List.map_congr_left fun x hx => ?_
  obtain ⟨a, b⟩ := h x hx
  simp
  omega
theorem by_bytes (x : Txt) : AllBytes (by_ x) := by
  intro y hy
  obtain ⟨u, _, rfl⟩ := List.mem_map.1 hy
  have := u.toNat_lt
  omega
theorem by_inj {x y : Txt} (h : by_ x = by_ y) : x = y := by rw [← tx_by x, ← tx_by y, h]
theorem tx_inj {l m : List Int} (hl : AllBytes l) (hm : AllBytes m) (h : tx l = tx m) : l = m := by rw [← by_tx hl, ← by_tx hm, h]
theorem by_length (x : Txt) : (by_ x).length = x.length := by simp [by_]
theorem tx_length (l : List Int) : (tx l).length = l.length := by simp [tx]
theorem by_take (x : Txt) (n : Nat) : (by_ x).take n = by_ (x.take n) := by simp [by_, List.map_take]
theorem tx_take (l : List Int) (n : Nat) : (tx l).take n = tx (l.take n) := by simp [tx, List.map_take]

theorem tlt_irrefl (x : Txt) : ¬ x < x := List.lt_irrefl x
theorem tlt_trans {x y z : Txt} (h : x < y) (g : y < z) : x < z := List.lt_trans h g
theorem tlt_tri (x y : Txt) : x < y ∨ x = y ∨ y < x := by
  by_cases h : x < y
  · exact .inl h
  · by_cases g : y < x
    · exact .inr (.inr g)
    · exact .inr (.inl (List.le_antisymm (List.not_lt.1 g) (List.not_lt.1 h)))

section
variable {β : Type}
/-- What stands at a text. -/
def lookT (L : List (Txt × β)) (x : Txt) : Option β := match L with
  | [] => none
  | p :: r => if p.1 = x then some p.2 else lookT r x
theorem lookT_cons (p : Txt × β) (r : List (Txt × β)) (x : Txt) : lookT (p :: r) x = if p.1 = x then some p.2 else lookT r x := rfl
/-- Texts rise. -/
def RiseT (L : List (Txt × β)) : Prop := L.Pairwise fun p q => p.1 < q.1
/-- Let a text have something. -/
def setT : List (Txt × β) → Txt → β → List (Txt × β)
  | [], x, v => [(x, v)]
  | p :: r, x, v => if p.1 < x then p :: setT r x v else if p.1 = x then (x, v) :: r else (x, v) :: p :: r
/-- Take a text away. -/
def delT (L : List (Txt × β)) (x : Txt) : List (Txt × β) := L.filter fun p => decide (p.1 ≠ x)

theorem lookT_mem {L : List (Txt × β)} {x : Txt} {v : β} (h : lookT L x = some v) : (x, v) ∈ L := by
  induction L with
  | nil => cases h
  | cons p r ih =>
    unfold lookT at h
    split at h
    · rename_i e
      cases h
      rw [← e]
      exact List.mem_cons_self ..
    · exact List.mem_cons_of_mem _ (ih h)
theorem lookT_none {L : List (Txt × β)} {x : Txt} : lookT L x = none ↔ ∀ p ∈ L, p.1 ≠ x := by
  induction L with
  | nil => simp [lookT]
  | cons p r ih =>
    unfold lookT
    split
    · rename_i e
      constructor
      · intro h; cases h
      · intro h; exact absurd e (h p (List.mem_cons_self ..))
    · rename_i e
      rw [ih]
      constructor
      · intro h q hq
        rcases List.mem_cons.1 hq with rfl | hq
        · exact e
        · exact h q hq
      · intro h q hq
        exact h q (List.mem_cons_of_mem _ hq)
theorem RiseT.look {L : List (Txt × β)} (h : RiseT L) {x : Txt} {v : β} (hm : (x, v) ∈ L) : lookT L x = some v := by
  induction L with
  | nil => cases hm
  | cons p r ih =>
    obtain ⟨h1, h2⟩ := List.pairwise_cons.1 h
    unfold lookT
    rcases List.mem_cons.1 hm with rfl | hm
    · simp
    · have := h1 _ hm
      rw [if_neg (fun e => by rw [e] at this; exact tlt_irrefl _ this)]
      exact ih h2 hm
theorem RiseT.tail {p : Txt × β} {L : List (Txt × β)} (h : RiseT (p :: L)) : RiseT L := (List.pairwise_cons.1 h).2
theorem RiseT.head {p : Txt × β} {L : List (Txt × β)} (h : RiseT (p :: L)) : ∀ q ∈ L, p.1 < q.1 := (List.pairwise_cons.1 h).1
/-- Two rising lists with the same at each text are one. -/
theorem RiseT.ext : ∀ {L M : List (Txt × β)}, RiseT L → RiseT M → (∀ x, lookT L x = lookT M x) → L = M
  | [], [], _, _, _ => rfl
  | [], q :: M, _, hM, h => by
    have := h q.1
    simp [lookT] at this
  | p :: L, [], _, _, h => by
    have := h p.1
    simp [lookT] at this
  | p :: L, q :: M, hL, hM, h => by
    have e1 : p.1 = q.1 := by
      rcases tlt_tri p.1 q.1 with a | a | a
      · have h1 := h p.1
        have h2 : lookT (q :: M) p.1 = none := by
          rw [lookT_none]
          intro r hr e
          rcases List.mem_cons.1 hr with rfl | hr
          · rw [e] at a; exact tlt_irrefl _ a
          · have := tlt_trans a (hM.head r hr); rw [e] at this; exact tlt_irrefl _ this
        rw [h2] at h1
        simp [lookT] at h1
      · exact a
      · have h1 := h q.1
        have h2 : lookT (p :: L) q.1 = none := by
          rw [lookT_none]
          intro r hr e
          rcases List.mem_cons.1 hr with rfl | hr
          · rw [e] at a; exact tlt_irrefl _ a
          · have := tlt_trans a (hL.head r hr); rw [e] at this; exact tlt_irrefl _ this
        rw [h2] at h1
        simp [lookT] at h1
    have e2 : p.2 = q.2 := by
      have h1 := h p.1
      unfold lookT at h1
      rw [if_pos rfl, if_pos e1.symm] at h1
      exact Option.some.inj h1
    have e3 : L = M := by
      refine RiseT.ext hL.tail hM.tail fun x => ?_
      by_cases ex : p.1 = x
      · have a1 : lookT L x = none := lookT_none.2 fun r hr e => by have := hL.head r hr; rw [e, ex] at this; exact tlt_irrefl _ this
        have a2 : lookT M x = none := lookT_none.2 fun r hr e => by have := hM.head r hr; rw [e, ← e1, ex] at this; exact tlt_irrefl _ this
        rw [a1, a2]
      · have h1 := h x
        unfold lookT at h1
        rw [if_neg ex, if_neg (fun e => ex (e1.trans e))] at h1
        exact h1
    rw [show p = q from Prod.ext e1 e2, e3]

theorem mem_setT {L : List (Txt × β)} {x : Txt} {v : β} {q : Txt × β} (h : q ∈ setT L x v) : q = (x, v) ∨ q ∈ L := by
  induction L with
  | nil => exact .inl (List.mem_singleton.1 h)
  | cons p r ih =>
    unfold setT at h
    split at h
    · rcases List.mem_cons.1 h with rfl | h
      · exact .inr (List.mem_cons_self ..)
      · rcases ih h with a | a
        · exact .inl a
        · exact .inr (List.mem_cons_of_mem _ a)
    · split at h
      · rcases List.mem_cons.1 h with rfl | h
        · exact .inl rfl
        · exact .inr (List.mem_cons_of_mem _ h)
      · rcases List.mem_cons.1 h with rfl | h
        · exact .inl rfl
        · exact .inr h
theorem RiseT.set {L : List (Txt × β)} (h : RiseT L) (x : Txt) (v : β) : RiseT (setT L x v) := by
  induction L with
  | nil => exact List.pairwise_singleton _ _
  | cons p r ih =>
    unfold setT
    split
    · rename_i e
      refine List.pairwise_cons.2 ⟨fun q hq => ?_, ih h.tail⟩
      rcases mem_setT hq with rfl | hq
      · exact e
      · exact h.head q hq
    · split
      · rename_i e
        refine List.pairwise_cons.2 ⟨fun q hq => ?_, h.tail⟩
        rw [← e]
        exact h.head q hq
      · rename_i e1 e2
        have hx : x < p.1 := by
          rcases tlt_tri p.1 x with a | a | a
          · exact absurd a e1
          · exact absurd a e2
          · exact a
        refine List.pairwise_cons.2 ⟨fun q hq => ?_, h⟩
        rcases List.mem_cons.1 hq with rfl | hq
        · exact hx
        · exact tlt_trans hx (h.head q hq)
theorem lookT_setT {L : List (Txt × β)} (h : RiseT L) (x y : Txt) (v : β) : lookT (setT L x v) y = if x = y then some v else lookT L y := by
  induction L with
  | nil => simp [setT, lookT]
  | cons p r ih =>
    unfold setT
    split
    · rename_i e
      unfold lookT
      rw [ih h.tail]
      by_cases e1 : p.1 = y
      · rw [if_pos e1, if_neg (fun e2 => by rw [e1, e2] at e; exact tlt_irrefl _ e), if_pos e1]
      · rw [if_neg e1, if_neg e1]
    · split
      · rename_i e1 e
        subst e
        unfold lookT
        by_cases e2 : p.1 = y
        · rw [if_pos e2, if_pos e2]
        · rw [if_neg e2, if_neg e2, if_neg e2]
      · rename_i e1 e2
        conv => lhs; unfold lookT
theorem RiseT.filter {L : List (Txt × β)} (h : RiseT L) (p : Txt × β → Bool) : RiseT (L.filter p) := List.Pairwise.filter _ h
theorem RiseT.del {L : List (Txt × β)} (h : RiseT L) (x : Txt) : RiseT (delT L x) := h.filter _
theorem lookT_delT (L : List (Txt × β)) (x y : Txt) : lookT (delT L x) y = if x = y then none else lookT L y := by
  induction L with
  | nil => simp [delT, lookT]
  | cons p r ih =>
    unfold delT at ih ⊢
    rw [List.filter_cons]
    by_cases e : p.1 = x
    · rw [if_neg (by simpa using e), ih]
      by_cases e1 : x = y
      · rw [if_pos e1, if_pos e1]
      · rw [if_neg e1, if_neg e1]
        conv => rhs; unfold lookT
        rw [if_neg (fun e2 => e1 (e.symm.trans e2))]
    · rw [if_pos (by simpa using e)]
      unfold lookT
      rw [ih]
      by_cases e2 : p.1 = y
      · rw [if_pos e2, if_neg (fun e3 => e (e2.trans e3.symm)), if_pos e2]
      · rw [if_neg e2, if_neg e2]
theorem delT_len (L : List (Txt × β)) (x : Txt) : (delT L x).length ≤ L.length := List.length_filter_le _ _
theorem setT_len (L : List (Txt × β)) (x : Txt) (v : β) : (setT L x v).length ≤ L.length + 1 := by
  induction L with
  | nil => simp [setT]
  | cons p r ih =>
    unfold setT
    split
    · simp; omega
    · split <;> simp
end

end Go.Proofs.YtinhdimalhfgkaaGreatDoor

/-
  bytes.Compare by its contract: how two slices of bytes stand to one another. No condition but that lengths are ints.
-/
namespace Go.Proofs.YtinhdimalhfgkaaGreatDoor
open Go.RowKit
set_option maxRecDepth 100000
set_option linter.unusedVariables false

/-! ### bytes.Compare -/
theorem cmpB_lt : ∀ (x y : Txt), Lib.compareBytes x y < 0 ↔ x < y
  | [], [] => by simp [Lib.compareBytes]
  | [], _ :: _ => by simp [Lib.compareBytes]
  | _ :: _, [] => by simp [Lib.compareBytes]
  | a :: x, b :: y => by
    unfold Lib.compareBytes
    rw [List.cons_lt_cons_iff]
    by_cases h1 : a < b
    · simp [h1]
    · by_cases h2 : b < a
      · have h3 : ¬ a = b := fun e => by subst e; exact absurd h2 (UInt8.lt_irrefl _)
        simp [h1, h2, h3]
      · have h3 : a = b := UInt8.le_antisymm (UInt8.not_lt.1 h2) (UInt8.not_lt.1 h1)
        subst h3
        simp [h1, cmpB_lt x y]
theorem bcmp_run {w : World} {B B' n m : Nat} {A A' : Option Addr} {l l' : List Int} (c d : Nat) (h : RB w B A n l) (h' : RB w B' A' m l') :
    (Extern.BytealgCompare.compare #[.slice A n c, .slice A' m d]).run Tryz.prog w = .ok (.int .i64 (Lib.compareBytes (tx l) (tx l'))) w := by
  have key : ∀ {B n : Nat} {A : Option Addr} {l : List Int} (c : Nat), RB w B A n l → (Extern.Bytes.bytesOf (.slice A n c)).run Tryz.prog w = .ok ⟨(tx l).toArray⟩ w := by
    intro B n A l c h
    rcases Nat.eq_zero_or_pos n with h0 | h0
    · subst h0
      obtain rfl : l = [] := List.eq_nil_of_length_eq_zero h.len
      cases A <;> rfl
    · obtain ⟨b, off, rfl, _, hc⟩ := h.at_ h0
      have hl := Lib.run_loadBytesX (P := Tryz.prog) w l ⟨b, off, none⟩ .empty (fun j x hj => by
        have hjl : j < l.length := (List.getElem?_eq_some_iff.1 hj).1
        have e : (⟨b, off, none⟩ : Addr).add j = ⟨b, off + j, none⟩ := by unfold Addr.add; split <;> simp_all
        rw [e, hc j (by rw [← h.len]; exact hjl), hj]
        rfl)
      rw [h.len] at hl
      have he : (⟨ByteArray.empty.data ++ (Lib.bytesOf l).toArray⟩ : ByteArray) = ⟨(tx l).toArray⟩ := by
        apply ByteArray.ext
        show (#[] : Array UInt8) ++ (Lib.bytesOf l).toArray = (tx l).toArray
        simp [Lib.bytesOf, tx]
      rw [he] at hl
      exact hl
  change Sem.run Tryz.prog (do pure (goInt (Extern.BytealgCompare.cmp (← Extern.Bytes.bytesOf (.slice A n c)) (← Extern.Bytes.bytesOf (.slice A' m d))))) w = _
  simp only [Sem.run_bind, Sem.run_pure, key c h, key d h', Result.andThen]
  rw [Lib.cmp_eq]
  simp [goInt]

set_option maxHeartbeats 800000 in
theorem bcmp_any {w : World} {B B' n m : Nat} {A A' : Option Addr} {l l' : List Int} (c d : Nat) (h : RB w B A n l) (h' : RB w B' A' m l') :
    Calls Tryz.prog 49 #[.slice A n c, .slice A' m d] w fun e w' => e = .returned (.int .i64 (Lib.compareBytes (tx l) (tx l'))) ∧ w = w' := by
  have hr := Lib.hid (bcmp_run c d h h')
  clear h h'
  generalize Lib.compareBytes (tx l) (tx l') = r at hr ⊢
  go_enter Tryz.func49, Tryz.ntmps49
  go_wp2_with fail
  rw [run_callFunc_extern Tryz.func98 (by kernel_rfl) (by kernel_rfl) (by kernel_rfl) (e := Extern.BytealgCompare.compare) (by kernel_rfl), hr.out]
  simp only [Result.andThen]
  rw [Oper.upon_value]
  go_wp2
  go_ret
  exact ⟨rfl, rfl⟩

end Go.Proofs.YtinhdimalhfgkaaGreatDoor

/-
  The library's slices.SortFunc over pairs: each function of the program is the one that the library's contract speaks of, number by number. No condition.
-/
namespace Go.Proofs
open Go.Shelf
def Tryz.sortP_ren : Go.Shelf.Ren := ⟨fun | 6 => 47 | 15 => 60 | 14 => 97 | 28 => 114 | 29 => 115 | 20 => 158 | 21 => 159 | 22 => 160 | 23 => 161 | 24 => 162 | 25 => 163 | 26 => 164 | 27 => 165 | 46 => 208 | 47 => 172 | 48 => 173 | 49 => 209 | 50 => 210 | 57 => 229 | n => n, fun | 22 => 31 | 24 => 95 | 25 => 97 | 3 => 3 | 39 => 104 | 0 => 0 | 53 => 109 | 55 => 173 | 4 => 4 | 46 => 164 | 45 => 163 | 50 => 169 | 5 => 5 | 9 => 9 | 66 => 215 | 70 => 219 | 76 => 239 | 77 => 114 | n => n, fun | n => n⟩
theorem Tryz.sortP : Go.Proofs.SlLaysF0.n6 Tryz.prog Tryz.sortP_ren := {
  mixed := by kernel_rfl
  f6 := ⟨Tryz.f47.name, by decide, Tryz.func47.trans (congrArg some (by kernel_rfl))⟩
  f14 := ⟨Tryz.f97.name, by decide, Tryz.func97.trans (congrArg some (by kernel_rfl))⟩
  f15 := Tryz.func60.trans (congrArg some (by kernel_rfl))
  f20 := ⟨Tryz.f158.name, by decide, Tryz.func158.trans (congrArg some (by kernel_rfl))⟩
  f21 := ⟨Tryz.f159.name, by decide, Tryz.func159.trans (congrArg some (by kernel_rfl))⟩
  f22 := ⟨Tryz.f160.name, by decide, Tryz.func160.trans (congrArg some (by kernel_rfl))⟩
  f23 := ⟨Tryz.f161.name, by decide, Tryz.func161.trans (congrArg some (by kernel_rfl))⟩
  f24 := ⟨Tryz.f162.name, by decide, Tryz.func162.trans (congrArg some (by kernel_rfl))⟩
  f25 := ⟨Tryz.f163.name, by decide, Tryz.func163.trans (congrArg some (by kernel_rfl))⟩
  f26 := ⟨Tryz.f164.name, by decide, Tryz.func164.trans (congrArg some (by kernel_rfl))⟩
  f27 := ⟨Tryz.f165.name, by decide, Tryz.func165.trans (congrArg some (by kernel_rfl))⟩
  f28 := Tryz.func114.trans (congrArg some (by kernel_rfl))
  f29 := Tryz.func115.trans (congrArg some (by kernel_rfl))
  f46 := ⟨Tryz.f208.name, by decide, Tryz.func208.trans (congrArg some (by kernel_rfl))⟩
  f47 := Tryz.func172.trans (congrArg some (by kernel_rfl))
  f48 := Tryz.func173.trans (congrArg some (by kernel_rfl))
  f49 := ⟨Tryz.f209.name, by decide, Tryz.func209.trans (congrArg some (by kernel_rfl))⟩
  f50 := ⟨Tryz.f210.name, by decide, Tryz.func210.trans (congrArg some (by kernel_rfl))⟩
  f57 := ⟨Tryz.f229.name, by decide, Tryz.func229.trans (congrArg some (by kernel_rfl))⟩
  t0 := Tryz.underlying0
  a0 := Tryz.isAgg0
  z0 := Tryz.sizeOf0
  v0 := Tryz.zeroValue0
  t3 := Tryz.underlying3
  a3 := Tryz.isAgg3
  z3 := Tryz.sizeOf3
  v3 := Tryz.zeroValue3
  t4 := Tryz.underlying4
  a4 := Tryz.isAgg4
  z4 := Tryz.sizeOf4
  v4 := Tryz.zeroValue4
  t5 := Tryz.underlying5
  a5 := Tryz.isAgg5
  z5 := Tryz.sizeOf5
  v5 := Tryz.zeroValue5
  t9 := Tryz.underlying9
  a9 := Tryz.isAgg9
  z9 := Tryz.sizeOf9
  v9 := Tryz.zeroValue9
  t22 := Tryz.underlying31
  a22 := Tryz.isAgg31
  z22 := Tryz.sizeOf31
  v22 := Tryz.zeroValue31
  t25 := Tryz.underlying97
  a25 := Tryz.isAgg97
  z25 := Tryz.sizeOf97
  v25 := Tryz.zeroValue97
  t39 := Tryz.underlying104
  a39 := Tryz.isAgg104
  z39 := Tryz.sizeOf104
  v39 := Tryz.zeroValue104
  t45 := Tryz.underlying163
  a45 := Tryz.isAgg163
  z45 := Tryz.sizeOf163
  v45 := Tryz.zeroValue163
  t46 := Tryz.underlying164
  a46 := Tryz.isAgg164
  z46 := Tryz.sizeOf164
  v46 := Tryz.zeroValue164
  t50 := Tryz.underlying169
  a50 := Tryz.isAgg169
  z50 := Tryz.sizeOf169
  v50 := Tryz.zeroValue169
  t53 := Tryz.underlying109
  a53 := Tryz.isAgg109
  z53 := Tryz.sizeOf109
  v53 := Tryz.zeroValue109
  t55 := Tryz.underlying173
  a55 := Tryz.isAgg173
  z55 := Tryz.sizeOf173
  v55 := Tryz.zeroValue173
  t66 := Tryz.underlying215
  a66 := Tryz.isAgg215
  z66 := Tryz.sizeOf215
  v66 := Tryz.zeroValue215
  t70 := Tryz.underlying219
  a70 := Tryz.isAgg219
  z70 := Tryz.sizeOf219
  v70 := Tryz.zeroValue219
  t76 := Tryz.underlying239
  a76 := Tryz.isAgg239
  z76 := Tryz.sizeOf239
  v76 := Tryz.zeroValue239
  t77 := Tryz.underlying114
  a77 := Tryz.isAgg114
  z77 := Tryz.sizeOf114
  v77 := Tryz.zeroValue114 }
end Go.Proofs

/-
  The library's slices.SortFunc over pairs with All's closure, by contract: the pairs, rising by their keys. Condition: fewer than 2^32 pairs, no key twice.
-/
namespace Go.Proofs.YtinhdimalhfgkaaGreatDoor
open Go.RowKit Go.Maps Go.Sort Go.Shelf
set_option maxRecDepth 100000
set_option linter.unusedVariables false

section
variable {w w' : World} {Y : Nat → Prop} {g n cap base : Nat}
set_option maxHeartbeats 800000 in
/-- The comparison. -/
theorem cmpE_any (W : World) {A1 A2 B1 B2 : Option Addr} {n1 k1 n2 k2 m1 l1 m2 l2 B B' : Nat} {x y : List Int} (hx : RB W B A1 n1 x) (hy : RB W B' B1 m1 y) (hB : B ≤ W.heap.size) (hB' : B' ≤ W.heap.size) :
    Calls Tryz.prog 48 #[.agg #[.slice A1 n1 k1, .slice A2 n2 k2], .agg #[.slice B1 m1 l1, .slice B2 m2 l2]] W fun e w' => e = .returned (.int .i64 (Lib.compareBytes (tx x) (tx y))) ∧ ∃ q os', w' = grow (W.drewN q) os' := by
  have hb1 : Below W.heap.size W (W.alloc (.cells #[.slice A1 n1 k1, .slice A2 n2 k2] 95 (0, 0))) := (Below.refl _ _).alloc (Nat.le_refl _) _
  have hb2 : Below W.heap.size W ((W.alloc (.cells #[.slice A1 n1 k1, .slice A2 n2 k2] 95 (0, 0))).alloc (.cells #[.slice B1 m1 l1, .slice B2 m2 l2] 95 (0, 0))) := hb1.alloc hb1.size _
  have HC := Lib.hid (bcmp_any k1 l1 (hx.below (hb2.mono hB)) (hy.below (hb2.mono hB')))
  generalize Lib.compareBytes (tx x) (tx y) = r at HC ⊢
  clear hx hy hb1 hb2
  go_enter Tryz.func48, Tryz.ntmps48
  go_wp2_with fail
  refine HC.out.mono ?_
  rintro e w' ⟨rfl, rfl⟩
  go_wp2
  go_ret
  exact ⟨rfl, 0, _, by rw [alloc_eq_grow, alloc_eq_grow, grow_grow]; rfl⟩

/-- A pair with its cells, as it lies apart from the blocks Y. -/
def SE (w : World) (Y : Nat → Prop) : Type := { p : List Value × KV // PairE w Y p.1 p.2 }
theorem pairE_nil (w : World) (Y : Nat → Prop) : PairE w Y [.slice none 0 0, .slice none 0 0] ([], []) :=
  ⟨none, 0, 0, none, 0, 0, rfl, ⟨RB.nil_, fun a h => by cases h⟩, ⟨Nat.le_refl _, Nat.zero_le _⟩, ⟨RB.nil_, fun a h => by cases h⟩, Nat.le_refl _, Nat.zero_le _⟩
instance seInh (w : World) (Y : Nat → Prop) : Inhabited (SE w Y) := ⟨⟨([.slice none 0 0, .slice none 0 0], ([], [])), pairE_nil w Y⟩⟩
def encE {w : World} {Y : Nat → Prop} (p : SE w Y) : List Value := p.1.1
def kvE {w : World} {Y : Nat → Prop} (p : SE w Y) : KV := p.1.2
def cmpE {w : World} {Y : Nat → Prop} (p q : SE w Y) : Int := Lib.compareBytes (tx (kvE p).1) (tx (kvE q).1)
theorem encE_len (p : SE w Y) : (encE p).length = 2 := by
  obtain ⟨ka, kn, kc, va, vn, vc, e, _⟩ := p.2
  unfold encE
  rw [e]; rfl
theorem swoE (w : World) (Y : Nat → Prop) : SWO (ltOf (cmpE (w := w) (Y := Y))) where
  irrefl x := by
    have : ¬ cmpE x x < 0 := fun h => tlt_irrefl _ ((cmpB_lt _ _).1 h)
    simp [ltOf, this]
  trans x y z h1 h2 := by
    simp only [ltOf, decide_eq_true_eq] at *
    exact (cmpB_lt _ _).2 (tlt_trans ((cmpB_lt _ _).1 h1) ((cmpB_lt _ _).1 h2))
  ntrans x y z h1 h2 := by
    simp only [ltOf, decide_eq_false_iff_not] at *
    intro h3
    have h3' := (cmpB_lt _ _).1 h3
    rcases tlt_tri (tx (kvE x).1) (tx (kvE y).1) with a | a | a
    · exact h1 ((cmpB_lt _ _).2 a)
    · rw [a] at h3'
      exact h2 ((cmpB_lt _ _).2 h3')
    · exact h2 ((cmpB_lt _ _).2 (tlt_trans a h3'))
theorem sortE_touch {α : Type} [Inhabited α] (enc : α → List Value) (k m : Nat) (w : World) (dk : Array α) (os : Array Obj) : Touch (fun k => k = g) w (sortWorldK enc k w g 0 m dk os) := by
  refine ⟨rfl, rfl, rfl, by simp [sortWorldK, putRowK, putRow, mapBlock, Sort.ahead, grow], fun j hj hne => ?_⟩
  show (grow (putRow id (Sort.ahead w m) g 0 (flatK enc k dk)) os).heap[j]? = _
  rw [heap_grow_old _ _ (by simpa using hj)]
  have : g ≠ j := fun e => hne e.symm
  simp [putRow, mapBlock, Sort.ahead, Array.getElem?_modify, this]
theorem cmpLaysE (hY : Y g) (size : Nat) : CmpLays Tryz.prog 48 #[] (encE (w := w) (Y := Y)) 2 cmpE g 0 size w := by
  intro m os dk hs x y
  have ht := sortE_touch (g := g) (encE (w := w) (Y := Y)) 2 m w dk os
  have hk : ∀ k, k < w.heap.size → ¬ Y k → (sortWorldK (encE (w := w) (Y := Y)) 2 w g 0 m dk os).heap[k]? = w.heap[k]? := fun k hk hy => ht.block k hk fun e => hy (by rw [e]; exact hY)
  obtain ⟨⟨xv, xk⟩, hx⟩ := x
  obtain ⟨⟨yv, yk⟩, hy⟩ := y
  obtain ⟨A1, n1, k1, A2, n2, k2, e1, r1, _⟩ := pairE_kept hx ht.size (fun _ _ h => h) hk
  obtain ⟨B1, m1, l1, B2, m2, l2, e2, r2, _⟩ := pairE_kept hy ht.size (fun _ _ h => h) hk
  have H := cmpE_any (A2 := A2) (n2 := n2) (k2 := k2) (B2 := B2) (m2 := m2) (l2 := l2) (k1 := k1) (l1 := l1) _ r1.1 r2.1 (Nat.le_refl _) (Nat.le_refl _)
  have ea : (#[Value.agg (encE (⟨(xv, xk), hx⟩ : SE w Y)).toArray, Value.agg (encE (⟨(yv, yk), hy⟩ : SE w Y)).toArray] ++ #[] : Array Value) = #[.agg #[.slice A1 n1 k1, .slice A2 n2 k2], .agg #[.slice B1 m1 l1, .slice B2 m2 l2]] := by
    have e1' : xv = _ := e1
    have e2' : yv = _ := e2
    simp [encE, e1', e2']
  rw [ea]
  exact H
/-- The cells of some pairs, and the pairs with them. -/
theorem mkSE : ∀ (ps : List KV) (vs : List Value), vs.length = ps.length * 2 → (∀ (a : Nat) (x : KV), ps[a]? = some x → PairE w Y ((vs.drop (a * 2)).take 2) x) → ∃ ds : List (SE w Y), ds.map kvE = ps ∧ ds.flatMap encE = vs
  | [], vs, hl, _ => ⟨[], rfl, (List.eq_nil_of_length_eq_zero (by simpa using hl)).symm⟩
  | x :: ps, vs, hl, h => by
    have h0 := h 0 x rfl
    rcases vs with _ | ⟨v1, _ | ⟨v2, vs⟩⟩
    · simp at hl
    · simp at hl; omega
    · obtain ⟨ds, h1, h2⟩ := mkSE ps vs (by simp at hl; omega) (fun a y hy => by
        have := h (a + 1) y (by simpa using hy)
        rw [show (a + 1) * 2 = a * 2 + 1 + 1 by omega] at this
        simpa using this)
      have h0' : PairE w Y [v1, v2] x := by simpa using h0
      obtain ⟨d, hd⟩ : ∃ d : SE w Y, d.1 = ([v1, v2], x) := ⟨⟨([v1, v2], x), h0'⟩, rfl⟩
      refine ⟨d :: ds, ?_, ?_⟩
      · rw [List.map_cons, h1]; unfold kvE; rw [hd]
      · rw [List.flatMap_cons, h2]; unfold encE; rw [hd]; rfl
theorem flat_atE : ∀ (ds : List (SE w Y)) (t : Nat), t < ds.length * 2 → (ds.flatMap encE)[t]? = some ((encE (ds.getD (t / 2) default))[t % 2]!)
  | [], t, h => by simp at h
  | d :: ds, t, h => by
    rw [List.flatMap_cons]
    rcases Nat.lt_or_ge t 2 with h2 | h2
    · rw [List.getElem?_append_left (by rw [encE_len]; exact h2)]
      have e1 : t / 2 = 0 := by omega
      have e2 : t % 2 = t := by omega
      rw [e1, e2]
      show (encE d)[t]? = some ((encE d)[t]!)
      rw [List.getElem?_eq_getElem (by rw [encE_len]; exact h2), getElem!_pos _ t (by rw [encE_len]; exact h2)]
    · have ih := flat_atE ds (t - 2) (by rw [List.length_cons] at h; omega)
      rw [List.getElem?_append_right (by rw [encE_len]; exact h2), encE_len, ih]
      have e1 : t / 2 = (t - 2) / 2 + 1 := by omega
      have e2 : t % 2 = (t - 2) % 2 := by omega
      rw [e1, e2, List.getD_cons_succ]
theorem flatE_len (ds : List (SE w Y)) : (ds.flatMap encE).length = ds.length * 2 := by
  induction ds with
  | nil => rfl
  | cons d ds ih => rw [List.flatMap_cons, List.length_append, ih, List.length_cons, encE_len]; omega
theorem flatK_listE (ds : List (SE w Y)) : (flatK encE 2 ds.toArray).toList = ds.flatMap encE := by
  apply List.ext_getElem?
  intro t
  rcases Nat.lt_or_ge t (ds.length * 2) with h | h
  · rw [flat_atE ds t h, Array.getElem?_toList, Array.getElem?_eq_getElem (by simpa using h)]
    have h1 := get_flatK (encE (w := w) (Y := Y)) 2 ds.toArray t (by simpa using h)
    rw [getElem!_pos _ t (by simpa using h)] at h1
    rw [h1]
    congr 3
    have h2 : t / 2 < ds.length := by omega
    simp [List.getD, h2]
  · rw [List.getElem?_eq_none (by simpa using h), List.getElem?_eq_none (by rw [flatE_len]; exact h)]
theorem heap_sortedE {α : Type} [Inhabited α] {enc : α → List Value} {k m : Nat} {dk : Array α} {os : Array Obj} {cur : Array Value} {e : TypeId} {fr : Nat × Nat} (hb : w.heap[g]? = some (.cells cur e fr)) :
    (sortWorldK enc k w g 0 m dk os).heap[g]? = some (.cells (putCells id 0 (flatK enc k dk) cur) e fr) := by
  have hg : g < w.heap.size := (Array.getElem?_eq_some_iff.1 hb).1
  show (grow (putRow id (Sort.ahead w m) g 0 (flatK enc k dk)) os).heap[g]? = _
  rw [heap_grow_old _ _ (by simpa using hg)]
  simp [putRow, mapBlock, Sort.ahead, Array.getElem?_modify, hb, onCells]
theorem take_putCellsE (cur F : Array Value) (h : F.size ≤ cur.size) : (putCells id 0 F cur).toList.take F.size = F.toList := by
  apply List.ext_getElem?
  intro j
  by_cases hj : j < F.size
  · rw [List.getElem?_take_of_lt hj, Array.getElem?_toList, Array.getElem?_toList]
    simp [putCells, hj, show j < cur.size by omega]
  · rw [List.getElem?_take_eq_none (by omega), List.getElem?_eq_none (by simp; omega)]
set_option maxHeartbeats 800000 in
theorem sortE_any {v : Value} {ps : List KV} (h : GRow PairE 95 2 w Y base v ps) (hn : ps.length ≤ 4294967296) (hdis : (ps.map fun x => tx x.1).Nodup) :
    Calls Tryz.prog 47 #[v, .func (.func 48) #[] #[]] w fun e w' =>
      e = .returned (.tuple #[]) ∧ ∃ ps' : List KV, ps'.Perm ps ∧ ps'.Pairwise (fun x y => tx x.1 < tx y.1) ∧ GRow PairE 95 2 w' Y base v ps' ∧ Touch (fun k => v.ownBlock = some k) w w' := by
  obtain ⟨vs, hown, hvs⟩ := h.row
  have hYo := h.own
  rcases hown.2 with ⟨rfl, h0⟩ | ⟨g, cap, cur, rfl, hb, hg, hc, hcm, hsz, htake⟩
  · obtain rfl := List.eq_nil_of_length_eq_zero h0
    refine (AnyF.slices_SortFunc_none Tryz.sortP none 0 (.func (.func 48) #[] #[]) w).mono ?_
    rintro e w' ⟨rfl, rfl⟩
    exact ⟨rfl, [], List.Perm.refl _, List.Pairwise.nil, h, ⟨rfl, rfl, rfl, Nat.le_refl _, fun _ _ _ => rfl⟩⟩
  · have hY : Y g := hYo g (by simp [Value.ownBlock])
    have hvl : vs.length = ps.length * 2 := hown.1
    obtain ⟨ds, h1, h2⟩ := mkSE ps vs hvl hvs
    have hdl : ds.length = ps.length := by rw [← h1, List.length_map]
    have hflat := flatK_listE ds
    have hcell : ∀ k u, vs[k]? = some u → w.cell? ⟨g, k, none⟩ = some u := fun k u hu => by
      have hk := (List.getElem?_eq_some_iff.1 hu).1
      rw [cell_of_row w g k cur _ (0, 0) hg, ← hu, ← htake, List.getElem?_take, if_pos (by omega)]
      simp
    have hH : HoldsK encE 2 w g 0 ds.toArray := by
      intro j hj
      have e : vs[j]? = some ((flatK encE 2 ds.toArray)[j]!) := by
        rw [← h2, ← hflat, Array.getElem?_toList, Array.getElem?_eq_getElem hj, getElem!_pos _ j hj]
      refine ⟨?_, ?_⟩
      · rw [Nat.zero_add]; exact hcell _ _ e
      · rw [Nat.zero_add]; exact frozen_of_row w g _ _ _ hg
    have eg : ∀ args w, (callFunc 48 args).run Tryz.prog w = .ok (.enter 48 args) w := enters_of Tryz.func48 (by kernel_rfl) rfl
    have hcon := AnyQ.slices_SortFunc Tryz.sortP 2 Tryz.isAgg95 Tryz.sizeOf95 (encE (w := w) (Y := Y)) encE_len (fun x v hv => by
      obtain ⟨ka, kn, kc, va, vn, vc, e, _⟩ := x.2
      unfold encE at hv
      rw [e] at hv
      simp only [List.mem_cons, List.not_mem_nil, or_false] at hv
      rcases hv with rfl | rfl <;> rfl) cmpE (swoE w Y) 48 #[] g 0 cap ds.toArray w eg (cmpLaysE hY _) hH (Array.getElem?_eq_some_iff.1 hg).1 (by simp; omega)
    change Calls Tryz.prog 47 _ _ _ at hcon
    have hsz0 : ds.toArray.size = ps.length := by simpa using hdl
    rw [hsz0] at hcon
    refine hcon.mono ?_
    rintro e w' ⟨rfl, d', m, os, hp, hsd, rfl⟩
    have ht := sortE_touch (g := g) (encE (w := w) (Y := Y)) 2 m w d' os
    have hd'n : d'.size = ps.length := by rw [hp.1]; exact hsz0
    have hperm : d'.toList.Perm ds := by
      have h3 := hp.2.2
      have a1 : d'.extract 0 ps.length = d' := by rw [← hd'n]; simp
      have a2 : ds.toArray.extract 0 ps.length = ds.toArray := by rw [← hsz0]; simp
      rw [a1, a2] at h3
      simpa using h3
    have hpp : (d'.toList.map kvE).Perm ps := by rw [← h1]; exact hperm.map _
    have hlen : (d'.toList.map kvE).length = ps.length := by rw [List.length_map]; simpa using hd'n
    have hk : ∀ k, k < w.heap.size → ¬ Y k → (sortWorldK encE 2 w g 0 m d' os).heap[k]? = w.heap[k]? := fun k hk hy => ht.block k hk fun e => hy (by rw [e]; exact hY)
    refine ⟨rfl, d'.toList.map kvE, hpp, ?_, ⟨⟨(flatK encE 2 d').toList, ⟨?_, Or.inr ⟨g, cap, _, by rw [hlen], hb, heap_sortedE hg, by rw [hlen]; exact hc, hcm, by simpa [putCells] using hsz, ?_⟩⟩, fun a x hx => ?_⟩, hYo⟩, ⟨ht.os, ht.tape, ht.output, ht.size, fun k hk hne => ht.block k hk (fun e => hne (by rw [e]; simp [Value.ownBlock]))⟩⟩
    · have hnd : ((d'.toList.map kvE).map fun x => tx x.1).Nodup := (hpp.map _).nodup_iff.2 hdis
      rw [List.nodup_iff_pairwise_ne, List.pairwise_map] at hnd
      refine List.pairwise_iff_getElem.2 fun i j hi hj hij => ?_
      have hne := List.pairwise_iff_getElem.1 hnd i j hi hj hij
      simp only [List.length_map, Array.length_toList] at hi hj
      have hs := hsd i j (Nat.zero_le _) hij (by omega)
      simp only [ltOf, decide_eq_false_iff_not] at hs
      simp only [List.getElem_map, Array.getElem_toList] at hne ⊢
      rw [getElem!_pos d' i hi, getElem!_pos d' j hj] at hs
      rcases tlt_tri (tx (kvE d'[i]).1) (tx (kvE d'[j]).1) with a | a | a
      · exact a
      · exact absurd a hne
      · exact absurd ((cmpB_lt _ _).2 a) hs
    · rw [hlen, Array.length_toList, size_flatK, hd'n]
    · have hfs : (flatK (encE (w := w) (Y := Y)) 2 d').size = ps.length * 2 := by rw [size_flatK, hd'n]
      rw [hlen, ← hfs]
      exact take_putCellsE _ _ (by rw [hfs, hsz]; omega)
    · rw [List.getElem?_map] at hx
      obtain ⟨p, hp', rfl⟩ := Option.map_eq_some_iff.1 hx
      have hal := (List.getElem?_eq_some_iff.1 hp').1
      have hfl := flatK_listE d'.toList
      rw [Array.toArray_toList] at hfl
      rw [hfl]
      have hgd : d'.toList.getD a default = p := by rw [List.getD_eq_getElem?_getD, hp']; rfl
      have he : ((d'.toList.flatMap encE).drop (a * 2)).take 2 = encE p := by
        apply List.ext_getElem?
        intro t
        rw [List.getElem?_take]
        by_cases ht2 : t < 2
        · rw [if_pos ht2, List.getElem?_drop, flat_atE _ _ (by omega), show (a * 2 + t) / 2 = a by omega, show (a * 2 + t) % 2 = t by omega, hgd, List.getElem?_eq_getElem (by rw [encE_len]; exact ht2), getElem!_pos _ t (by rw [encE_len]; exact ht2)]
        · rw [if_neg ht2, List.getElem?_eq_none (by rw [encE_len]; omega)]
      rw [he]
      exact pairE_kept p.2 ht.size (fun _ _ h => h) hk
end
end Go.Proofs.YtinhdimalhfgkaaGreatDoor

/-
  What All has under way: the slots that it has seen, the pairs that it has gathered; what each of its steps makes of it. Conditions: numbers and lengths are ints.
-/
namespace Go.Proofs.YtinhdimalhfgkaaGreatDoor
open Go.RowKit
set_option maxRecDepth 100000
set_option linter.unusedVariables false

theorem shlE_run {d : Int} {N : Nat} (h0 : 0 ≤ d ∧ d ≤ 10) (hs : wrap64 (2 ^ d.toNat) = (N : Int)) (W : World) : (Op.shift .shl .i64 1 .i64 d).run Tryz.prog W = .ok (.int .i64 (N : Int)) W := by
  have h1 : ¬ d < 0 := by omega
  have h2 : min d.toNat 64 = d.toNat := by omega
  simp [go_sem]
  generalize (2 : Int) ^ d.toNat = z at *
  rw [IntKind.wrap_i64]
  unfold wrap64 at hs
  exact hs
/-- Some slots more are seen: s, and each step-th behind it. -/
def markB (seen : Nat → Bool) (s step : Nat) : Nat → Bool := fun i => seen i || (decide (s ≤ i) && decide ((i - s) % step = 0))
/-- What All has behind k slots: which are seen, the pairs, how many pages their chains take. -/
def allSt (cs : Nat → List Leaf) (bd : Nat → Nat) : Nat → (Nat → Bool) × List KV × Nat
  | 0 => (fun _ => false, [], 0)
  | k + 1 => if (allSt cs bd k).1 k = true then allSt cs bd k else (markB (allSt cs bd k).1 k (2 ^ bd k), (allSt cs bd k).2.1 ++ (cs k).flatMap Leaf.ps, (allSt cs bd k).2.2 + (cs k).length)
theorem allSt_seen {cs : Nat → List Leaf} {bd : Nat → Nat} {k : Nat} (h : (allSt cs bd k).1 k = true) : allSt cs bd (k + 1) = allSt cs bd k := by
  show (if _ then _ else _) = _
  rw [if_pos h]
theorem allSt_new {cs : Nat → List Leaf} {bd : Nat → Nat} {k : Nat} (h : (allSt cs bd k).1 k = false) : allSt cs bd (k + 1) = (markB (allSt cs bd k).1 k (2 ^ bd k), (allSt cs bd k).2.1 ++ (cs k).flatMap Leaf.ps, (allSt cs bd k).2.2 + (cs k).length) := by
  show (if _ then _ else _) = _
  rw [if_neg (by rw [h]; decide)]
theorem allSt_mono (cs : Nat → List Leaf) (bd : Nat → Nat) (k : Nat) : ∀ m, (allSt cs bd k).2.2 ≤ (allSt cs bd (k + m)).2.2 ∧ (allSt cs bd k).2.1.length ≤ (allSt cs bd (k + m)).2.1.length
  | 0 => ⟨Nat.le_refl _, Nat.le_refl _⟩
  | m + 1 => by
    obtain ⟨h1, h2⟩ := allSt_mono cs bd k m
    cases hb : (allSt cs bd (k + m)).1 (k + m) with
    | true => rw [← Nat.add_assoc, allSt_seen hb]; exact ⟨h1, h2⟩
    | false =>
      rw [← Nat.add_assoc, allSt_new hb]
      refine ⟨Nat.le_trans h1 (Nat.le_add_right _ _), Nat.le_trans h2 ?_⟩
      rw [List.length_append]
      exact Nat.le_add_right _ _

/-- All under way: its pairs' row, the bools of what is seen, the box with Meta. -/
structure AInv (w1 W : World) (mb sb N : Nat) (box : Obj) (seen : Nat → Bool) (v : Value) (P : List KV) (Y : Nat → Prop) : Prop where
  row : GRow PairE 95 2 W Y (sb + 1) v P
  low : ∀ k, k ≤ sb → Y k
  lt : ∀ k, Y k → k < W.heap.size
  seen : W.rowIs sb 4 N (fun i => .bool (seen i))
  box : W.heap[mb]? = some box
  bel : Below w1.heap.size w1 W
  at_ : w1.heap.size ≤ mb ∧ mb < sb
section
variable {w1 W W' : World} {mb sb N n c : Nat} {box : Obj} {seen : Nat → Bool} {v : Value} {P ps : List KV} {Y : Nat → Prop} {A : Option Addr}
theorem AInv.below (h : AInv w1 W mb sb N box seen v P Y) (hb : Below W.heap.size W W') : AInv w1 W' mb sb N box seen v P Y :=
  ⟨GRow.below (R := PairE) pairE_kept h.row hb, h.low, fun k hk => Nat.lt_of_lt_of_le (h.lt k hk) hb.size, h.seen.of_block (hb.block sb h.seen.lt), (hb.block mb (Array.getElem?_eq_some_iff.1 h.box).1).trans h.box, h.bel.trans (hb.mono h.bel.size), h.at_⟩
/-- A bucket's pairs put behind the row. -/
theorem AInv.add (h : AInv w1 W mb sb N box seen v P Y) (hs : Stays W Y A n ps) (hP : P.length ≤ 1073741824) (hn : n ≤ 1073741824) (ty : TypeId) :
    ∃ v' W', (Builtin.append_ #[31, 31] ty #[v, .slice A n c]).run Tryz.prog W = .ok v' W' ∧ AInv w1 W' mb sb N box seen v' (P ++ ps) (fun k => Y k ∨ v'.ownBlock = some k) ∧
      (∀ (A' : Option Addr) (n' : Nat) (ps' : List KV), Stays W Y A' n' ps' → Stays W' (fun k => Y k ∨ v'.ownBlock = some k) A' n' ps') ∧ (∀ k, k < W.heap.size → v.ownBlock ≠ some k → W'.heap[k]? = W.heap[k]?) ∧ (v'.ownBlock = v.ownBlock ∨ v'.ownBlock = some W.heap.size) ∧ W.heap.size ≤ W'.heap.size := by
  have hsl := h.seen.lt
  obtain ⟨v', W', hrun, h1, h2, h3⟩ := h.row.addPairs (c := c) hs hP hn (by omega) ty
  have hno : ∀ k, v.ownBlock = some k → sb + 1 ≤ k := fun k hk => (h.row.at_ k hk).1
  have hkeep : ∀ k, k < W.heap.size → v.ownBlock ≠ some k → W'.heap[k]? = W.heap[k]? := fun k hk hne => h2.block k hk fun e => hne e.symm
  refine ⟨v', W', hrun, ⟨h1, fun k hk => .inl (h.low k hk), fun k hk => ?_, h.seen.of_block (hkeep sb hsl fun e => by have := hno _ e; omega), (hkeep mb (Array.getElem?_eq_some_iff.1 h.box).1 fun e => by have := hno _ e; have := h.at_; omega).trans h.box, h.bel.grown h2 h.bel.size (fun k hk => by have := hno _ hk; have := h.at_; omega), h.at_⟩, fun A' n' ps' hs' => hs'.grow h2.size (fun k hk hy => hkeep k hk fun e => hy (h.row.own k e)) (fun k hk hy hy' => ?_), hkeep, h3, h2.size⟩
  · rcases hk with a | a
    · exact Nat.lt_of_lt_of_le (h.lt k a) h2.size
    · exact (h1.at_ k a).2
  · rcases hy' with a | a
    · exact hy a
    · rcases h3 with q | q
      · rw [q] at a; exact hy (h.row.own k a)
      · rw [q] at a; injection a with a; omega
/-- A slot is marked. -/
theorem AInv.mark (h : AInv w1 W mb sb N box seen v P Y) (i : Nat) :
    AInv w1 (W.setCell ⟨sb, i, none⟩ (.bool true)) mb sb N box (fun j => seen j || decide (j = i)) v P Y ∧ (∀ k, k ≠ sb → (W.setCell ⟨sb, i, none⟩ (.bool true)).heap[k]? = W.heap[k]?) ∧ W.heap.size ≤ (W.setCell ⟨sb, i, none⟩ (.bool true)).heap.size := by
  have hk : ∀ k, k ≠ sb → (W.setCell ⟨sb, i, none⟩ (.bool true)).heap[k]? = W.heap[k]? := fun k hk => Below.heap_setCell _ _ _ _ hk
  have hsz : W.heap.size ≤ (W.setCell ⟨sb, i, none⟩ (.bool true)).heap.size := by simp [World.setCell]
  have hYs := h.low sb (Nat.le_refl _)
  have ha := h.at_
  refine ⟨⟨GRow.keep (R := PairE) pairE_kept h.row hsz (fun _ _ h => h) (fun k _ hy => hk k fun e => hy (by rw [e]; exact hYs)) (fun r hr => ⟨hk r fun e => by have := (h.row.at_ r hr).1; omega, h.row.own r hr⟩), h.low, fun k hk' => Nat.lt_of_lt_of_le (h.lt k hk') hsz, (h.seen.set i (.bool true)).congr fun j _ => ?_, (hk mb (by omega)).trans h.box, ⟨h.bel.os, h.bel.tape, h.bel.output, Nat.le_trans h.bel.size hsz, fun k hk' => (hk k (by omega)).trans (h.bel.block k hk')⟩, ha⟩, hk, hsz⟩
  by_cases e : j = i
  · rw [if_pos e, decide_eq_true e, Bool.or_true]
  · rw [if_neg e, decide_eq_false e, Bool.or_false]
theorem AInv.congr (h : AInv w1 W mb sb N box seen v P Y) {seen' : Nat → Bool} (e : ∀ i, i < N → seen i = seen' i) : AInv w1 W mb sb N box seen' v P Y :=
  ⟨h.row, h.low, h.lt, h.seen.congr fun i hi => by rw [e i hi], h.box, h.bel, h.at_⟩
end
end Go.Proofs.YtinhdimalhfgkaaGreatDoor
