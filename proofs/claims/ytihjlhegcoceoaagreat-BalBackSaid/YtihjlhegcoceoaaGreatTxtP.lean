/-
  Texts as lists of bytes, and lists that rise by texts: what stands at a text, put, taken away; two rising lists with the same at each text are one. Plain facts; no condition beyond what each says.
-/
import Derived.Test.YtihjlhegcoceoaaGreatBase
namespace Go.Proofs.YtihjlhegcoceoaaGreat
set_option linter.unusedVariables false

/-- A text. -/
abbrev Txt := List UInt8
/-- A text of some bytes; a text's bytes. -/
def tx (l : List Int) : Txt := l.map fun n => UInt8.ofNat n.toNat
def by_ (x : Txt) : List Int := x.map fun u => (u.toNat : Int)
theorem tx_by (x : Txt) : tx (by_ x) = x := by
  unfold tx by_
  rw [List.map_map]
  conv => rhs; rw [← List.map_id x]
  refine List.map_congr_left fun u _ => ?_
  simp
theorem by_tx {l : List Int} (h : AllBytes l) : by_ (tx l) = l := by
  unfold tx by_
  rw [List.map_map]
  conv => rhs; rw [← List.map_id l]
  refine List.map_congr_left fun x hx => ?_
  obtain ⟨a, b⟩ := h x hx
  simp
  omega
theorem by_bytes (x : Txt) : AllBytes (by_ x) := by
  intro y hy
  obtain ⟨u, _, rfl⟩ := List.mem_map.1 hy
  have := u.toNat_lt
  omega
theorem by_inj {x y : Txt} (h : by_ x = by_ y) : x = y := by rw [← tx_by x, ← tx_by y, h]
theorem tx_inj {l m : List Int} (hl : AllBytes l) (hm : AllBytes m) (h : tx l = tx m) : l = m := by rw [← by_tx hl, ← by_tx hm, h]
theorem by_length (x : Txt) : (by_ x).length = x.length := by simp [by_]
theorem tx_length (l : List Int) : (tx l).length = l.length := by simp [tx]
theorem by_take (x : Txt) (n : Nat) : (by_ x).take n = by_ (x.take n) := by simp [by_, List.map_take]
theorem tx_take (l : List Int) (n : Nat) : (tx l).take n = tx (l.take n) := by simp [tx, List.map_take]

theorem tlt_irrefl (x : Txt) : ¬ x < x := List.lt_irrefl x
theorem tlt_trans {x y z : Txt} (h : x < y) (g : y < z) : x < z := List.lt_trans h g
theorem tlt_tri (x y : Txt) : x < y ∨ x = y ∨ y < x := by
  by_cases h : x < y
  · exact .inl h
  · by_cases g : y < x
    · exact .inr (.inr g)
    · exact .inr (.inl (List.le_antisymm (List.not_lt.1 g) (List.not_lt.1 h)))

section
variable {β : Type}
/-- What stands at a text. -/
def lookT (L : List (Txt × β)) (x : Txt) : Option β := match L with
  | [] => none
  | p :: r => if p.1 = x then some p.2 else lookT r x
theorem lookT_cons (p : Txt × β) (r : List (Txt × β)) (x : Txt) : lookT (p :: r) x = if p.1 = x then some p.2 else lookT r x := rfl
/-- Texts rise. -/
def RiseT (L : List (Txt × β)) : Prop := L.Pairwise fun p q => p.1 < q.1
/-- Let a text have something. -/
def setT : List (Txt × β) → Txt → β → List (Txt × β)
  | [], x, v => [(x, v)]
  | p :: r, x, v => if p.1 < x then p :: setT r x v else if p.1 = x then (x, v) :: r else (x, v) :: p :: r
/-- Take a text away. -/
def delT (L : List (Txt × β)) (x : Txt) : List (Txt × β) := L.filter fun p => decide (p.1 ≠ x)

theorem lookT_mem {L : List (Txt × β)} {x : Txt} {v : β} (h : lookT L x = some v) : (x, v) ∈ L := by
  induction L with
  | nil => cases h
  | cons p r ih =>
    unfold lookT at h
    split at h
    · rename_i e
      cases h
      rw [← e]
      exact List.mem_cons_self ..
    · exact List.mem_cons_of_mem _ (ih h)
theorem lookT_none {L : List (Txt × β)} {x : Txt} : lookT L x = none ↔ ∀ p ∈ L, p.1 ≠ x := by
  induction L with
  | nil => simp [lookT]
  | cons p r ih =>
    unfold lookT
    split
    · rename_i e
      constructor
      · intro h; cases h
      · intro h; exact absurd e (h p (List.mem_cons_self ..))
    · rename_i e
      rw [ih]
      constructor
      · intro h q hq
        rcases List.mem_cons.1 hq with rfl | hq
        · exact e
        · exact h q hq
      · intro h q hq
        exact h q (List.mem_cons_of_mem _ hq)
theorem RiseT.look {L : List (Txt × β)} (h : RiseT L) {x : Txt} {v : β} (hm : (x, v) ∈ L) : lookT L x = some v := by
  induction L with
  | nil => cases hm
  | cons p r ih =>
    obtain ⟨h1, h2⟩ := List.pairwise_cons.1 h
    unfold lookT
    rcases List.mem_cons.1 hm with rfl | hm
    · simp
    · have := h1 _ hm
      rw [if_neg (fun e => by rw [e] at this; exact tlt_irrefl _ this)]
      exact ih h2 hm
theorem RiseT.tail {p : Txt × β} {L : List (Txt × β)} (h : RiseT (p :: L)) : RiseT L := (List.pairwise_cons.1 h).2
theorem RiseT.head {p : Txt × β} {L : List (Txt × β)} (h : RiseT (p :: L)) : ∀ q ∈ L, p.1 < q.1 := (List.pairwise_cons.1 h).1
/-- Two rising lists with the same at each text are one. -/
theorem RiseT.ext : ∀ {L M : List (Txt × β)}, RiseT L → RiseT M → (∀ x, lookT L x = lookT M x) → L = M
  | [], [], _, _, _ => rfl
  | [], q :: M, _, hM, h => by
    have := h q.1
    simp [lookT] at this
  | p :: L, [], _, _, h => by
    have := h p.1
    simp [lookT] at this
  | p :: L, q :: M, hL, hM, h => by
    have e1 : p.1 = q.1 := by
      rcases tlt_tri p.1 q.1 with a | a | a
      · have h1 := h p.1
        have h2 : lookT (q :: M) p.1 = none := by
          rw [lookT_none]
          intro r hr e
          rcases List.mem_cons.1 hr with rfl | hr
          · rw [e] at a; exact tlt_irrefl _ a
          · have := tlt_trans a (hM.head r hr); rw [e] at this; exact tlt_irrefl _ this
        rw [h2] at h1
        simp [lookT] at h1
      · exact a
      · have h1 := h q.1
        have h2 : lookT (p :: L) q.1 = none := by
          rw [lookT_none]
          intro r hr e
          rcases List.mem_cons.1 hr with rfl | hr
          · rw [e] at a; exact tlt_irrefl _ a
          · have := tlt_trans a (hL.head r hr); rw [e] at this; exact tlt_irrefl _ this
        rw [h2] at h1
        simp [lookT] at h1
    have e2 : p.2 = q.2 := by
      have h1 := h p.1
      unfold lookT at h1
      rw [if_pos rfl, if_pos e1.symm] at h1
      exact Option.some.inj h1
    have e3 : L = M := by
      refine RiseT.ext hL.tail hM.tail fun x => ?_
      by_cases ex : p.1 = x
      · have a1 : lookT L x = none := lookT_none.2 fun r hr e => by have := hL.head r hr; rw [e, ex] at this; exact tlt_irrefl _ this
        have a2 : lookT M x = none := lookT_none.2 fun r hr e => by have := hM.head r hr; rw [e, ← e1, ex] at this; exact tlt_irrefl _ this
        rw [a1, a2]
      · have h1 := h x
        unfold lookT at h1
        rw [if_neg ex, if_neg (fun e => ex (e1.trans e))] at h1
        exact h1
    rw [show p = q from Prod.ext e1 e2, e3]

theorem mem_setT {L : List (Txt × β)} {x : Txt} {v : β} {q : Txt × β} (h : q ∈ setT L x v) : q = (x, v) ∨ q ∈ L := by
  induction L with
  | nil => exact .inl (List.mem_singleton.1 h)
  | cons p r ih =>
    unfold setT at h
    split at h
    · rcases List.mem_cons.1 h with rfl | h
      · exact .inr (List.mem_cons_self ..)
      · rcases ih h with a | a
        · exact .inl a
        · exact .inr (List.mem_cons_of_mem _ a)
    · split at h
      · rcases List.mem_cons.1 h with rfl | h
        · exact .inl rfl
        · exact .inr (List.mem_cons_of_mem _ h)
      · rcases List.mem_cons.1 h with rfl | h
        · exact .inl rfl
        · exact .inr h
theorem RiseT.set {L : List (Txt × β)} (h : RiseT L) (x : Txt) (v : β) : RiseT (setT L x v) := by
  induction L with
  | nil => exact List.pairwise_singleton _ _
  | cons p r ih =>
    unfold setT
    split
    · rename_i e
      refine List.pairwise_cons.2 ⟨fun q hq => ?_, ih h.tail⟩
      rcases mem_setT hq with rfl | hq
      · exact e
      · exact h.head q hq
    · split
      · rename_i e
        refine List.pairwise_cons.2 ⟨fun q hq => ?_, h.tail⟩
        rw [← e]
        exact h.head q hq
      · rename_i e1 e2
        have hx : x < p.1 := by
          rcases tlt_tri p.1 x with a | a | a
          · exact absurd a e1
          · exact absurd a e2
          · exact a
        refine List.pairwise_cons.2 ⟨fun q hq => ?_, h⟩
        rcases List.mem_cons.1 hq with rfl | hq
        · exact hx
        · exact tlt_trans hx (h.head q hq)
theorem lookT_setT {L : List (Txt × β)} (h : RiseT L) (x y : Txt) (v : β) : lookT (setT L x v) y = if x = y then some v else lookT L y := by
  induction L with
  | nil => simp [setT, lookT]
  | cons p r ih =>
    unfold setT
    split
    · rename_i e
      unfold lookT
      rw [ih h.tail]
      by_cases e1 : p.1 = y
      · rw [if_pos e1, if_neg (fun e2 => by rw [e1, e2] at e; exact tlt_irrefl _ e), if_pos e1]
      · rw [if_neg e1, if_neg e1]
    · split
      · rename_i e1 e
        subst e
        unfold lookT
        by_cases e2 : p.1 = y
        · rw [if_pos e2, if_pos e2]
        · rw [if_neg e2, if_neg e2, if_neg e2]
      · rename_i e1 e2
        conv => lhs; unfold lookT
theorem RiseT.filter {L : List (Txt × β)} (h : RiseT L) (p : Txt × β → Bool) : RiseT (L.filter p) := List.Pairwise.filter _ h
theorem RiseT.del {L : List (Txt × β)} (h : RiseT L) (x : Txt) : RiseT (delT L x) := h.filter _
theorem lookT_delT (L : List (Txt × β)) (x y : Txt) : lookT (delT L x) y = if x = y then none else lookT L y := by
  induction L with
  | nil => simp [delT, lookT]
  | cons p r ih =>
    unfold delT at ih ⊢
    rw [List.filter_cons]
    by_cases e : p.1 = x
    · rw [if_neg (by simpa using e), ih]
      by_cases e1 : x = y
      · rw [if_pos e1, if_pos e1]
      · rw [if_neg e1, if_neg e1]
        conv => rhs; unfold lookT
        rw [if_neg (fun e2 => e1 (e.symm.trans e2))]
    · rw [if_pos (by simpa using e)]
      unfold lookT
      rw [ih]
      by_cases e2 : p.1 = y
      · rw [if_pos e2, if_neg (fun e3 => e (e2.trans e3.symm)), if_pos e2]
      · rw [if_neg e2, if_neg e2]
theorem delT_len (L : List (Txt × β)) (x : Txt) : (delT L x).length ≤ L.length := List.length_filter_le _ _
theorem setT_len (L : List (Txt × β)) (x : Txt) (v : β) : (setT L x v).length ≤ L.length + 1 := by
  induction L with
  | nil => simp [setT]
  | cons p r ih =>
    unfold setT
    split
    · simp; omega
    · split <;> simp
end

end Go.Proofs.YtihjlhegcoceoaaGreat
