/-
  The texts StepImg, PgI, AnyT, AnyZ, PgV, PgAw, Dos7, EqIntsB joined. Conditions: those that each part says at its head.
-/
import Derived.Test.YtkpmfobmlaldfaaGreatDoorG6
import Derived.Test.YtkpmfobmlaldfaaGreatDoorG1
import Derived.Test.YtkpmfobmlaldfaaGreatDoorG5
import Derived.Maps.AppendAt
import Derived.Lib.AppendZeros
import Derived.OrdersHeld
import Derived.StillTail
import Derived.Deep.AppendLies
import Derived.Deep.Slices
import Derived.Deep.Fields
import Derived.ChangeSame
import Derived.ProofKit
import Derived.BigQuiet

/-
  append of some images, or none, as a step of a region that draws. Condition: fewer than 2^31 elements.
-/
namespace Go.Proofs.YtkpmfobmlaldfaaGreatDoor
open Go.RowKit
set_option maxRecDepth 100000
set_option linter.unusedVariables false

theorem step_append_imgs {w : World} {ops : Array Oper} {o : Oper} {a : Act} {K : Act → World → Prop} {Q : Exit → Act → World → Prop} {E : Prop} (hgd : o.guard = none) (s x : Operand)
    (ho : o.op = .call { callee := .builtin .append, args := #[s, x], argTypes := #[39, 39] })
    (base : Nat) (v : Value) (n : Nat) (xs : List Value) (hs : a.eval s = v) (A : Option Addr) (m c : Nat) (hx : a.eval x = .slice A m c)
    (hown : w.ownsRow base 101 2 v n xs) (news : List Value) (hl : news.length = m * 2) (hnews : ∀ j u, news[j]? = some u → ∃ ad, A = some ad ∧ w.cell? (ad.add j) = some u) (h1 : ∀ u ∈ news, u.oneCell' = true)
    (h63 : n + m ≤ 2147483647) (hbase : base ≤ w.heap.size)
    (h : ∀ A' c' w', w'.ownsRow base 101 2 (.slice A' (n + m) c') (n + m) (xs ++ news) → w.grownBy w' v.ownBlock → ((Value.slice A' (n + m) c').ownBlock = v.ownBlock ∨ (Value.slice A' (n + m) c').ownBlock = some w.heap.size) → K (a.put o.dst (.slice A' (n + m) c')) w') :
    if Region.wanted o (yielded ops a.tmps) = true then Oper.wp Tryz.prog o a w K Q else E := by
  obtain ⟨i0, hi, hz0, hz1, hz2⟩ := info_parts info_image
  have hw : Region.wanted o (yielded ops a.tmps) = true := by simp [Region.wanted, hgd]
  rw [if_pos hw]
  have shape : ∀ {w' : World} {v' : Value} {k : Nat} {ys : List Value}, w'.ownsRow base 101 2 v' k ys → ∃ A' c', v' = .slice A' k c' := fun h' => by
    rcases h'.2 with ⟨rfl, rfl⟩ | ⟨g, cap, cur, rfl, _⟩
    · exact ⟨none, 0, rfl⟩
    · exact ⟨_, _, rfl⟩
  cases A with
  | none =>
    have hn0 : news = [] := by
      cases news with
      | nil => rfl
      | cons u r =>
        obtain ⟨ad, e, _⟩ := hnews 0 u rfl
        cases e
    subst hn0
    obtain rfl : m = 0 := by
      have hl0 : 0 = m * 2 := hl
      omega
    have hrun := run_append_none (P := Tryz.prog) (w := w) base 39 o.type 101 i0 2 Tryz.underlying39 hi v n xs hown c
    obtain ⟨A', c', rfl⟩ := shape hown
    refine Lib.wp_append_run w s x 39 39 ho _ _ hs hx _ w hrun ?_
    exact h A' c' w (by simpa using hown) ⟨rfl, rfl, rfl, Nat.le_refl _, fun _ _ _ => rfl⟩ (.inl rfl)
  | some ad =>
    obtain ⟨v', w', hr, h2, h3, _, h5⟩ := run_append_own_at (P := Tryz.prog) w base 39 o.type 101 i0 (.agg #[.int .i64 0, .slice none 0 0]) 2 32 Tryz.underlying39 hi hz0 hz1 hz2 rfl (by decide) v n xs hown ad m c news hl (fun j u hu => by
      obtain ⟨ad', e, hc⟩ := hnews j u hu
      cases e
      exact hc) h1 (by unfold maxLen; omega) (by omega) hbase
    obtain ⟨A', c', rfl⟩ := shape h2
    refine Lib.wp_append_run w s x 39 39 ho _ _ hs hx _ w' hr ?_
    exact h A' c' w' h2 h3 h5

end Go.Proofs.YtkpmfobmlaldfaaGreatDoor

/-
  Plain: an element put in at a place of a list of images, and the row that holds it then. No program.
-/
namespace Go.Proofs.YtkpmfobmlaldfaaGreatDoor
open Go.RowKit
set_option maxRecDepth 100000
set_option linter.unusedVariables false

theorem img_add (b off j : Nat) : (⟨b, off, none⟩ : Addr).add j = ⟨b, off + j, none⟩ := by unfold Addr.add; split <;> simp_all
theorem insert_get {α : Type} (l : List α) {k : Nat} (hk : k ≤ l.length) (x : α) (i : Nat) : (l.take k ++ x :: l.drop k)[i]? = if i < k then l[i]? else if i = k then some x else l[i - 1]? := by
  have hl : (l.take k).length = k := by rw [List.length_take]; omega
  by_cases h1 : i < k
  · rw [if_pos h1, List.getElem?_append_left (by omega), List.getElem?_take, if_pos h1]
  · rw [if_neg h1, List.getElem?_append_right (by omega), hl]
    by_cases h2 : i = k
    · rw [if_pos h2, h2, Nat.sub_self]; rfl
    · rw [if_neg h2]
      obtain ⟨j, hj⟩ : ∃ j, i - k = j + 1 := ⟨i - k - 1, by omega⟩
      rw [hj, List.getElem?_cons_succ, List.getElem?_drop, show k + j = i - 1 by omega]
theorem insert2_get {α : Type} (l : List α) {k : Nat} (hk : k ≤ l.length) (x y : α) (i : Nat) : (l.take k ++ [x, y] ++ l.drop k)[i]? = if i < k then l[i]? else if i = k then some x else if i = k + 1 then some y else l[i - 2]? := by
  have hl : (l.take k).length = k := by rw [List.length_take]; omega
  rw [List.append_assoc]
  by_cases h1 : i < k
  · rw [if_pos h1, List.getElem?_append_left (by omega), List.getElem?_take, if_pos h1]
  · rw [if_neg h1, List.getElem?_append_right (by omega), hl]
    by_cases h2 : i = k
    · rw [if_pos h2, h2, Nat.sub_self]; rfl
    · rw [if_neg h2]
      by_cases h3 : i = k + 1
      · rw [if_pos h3, h3, show k + 1 - k = 1 by omega]; rfl
      · rw [if_neg h3]
        obtain ⟨j, hj⟩ : ∃ j, i - k = j + 2 := ⟨i - k - 2, by omega⟩
        rw [hj]
        show (l.drop k)[j]? = _
        rw [List.getElem?_drop, show k + j = i - 2 by omega]

section
variable {e m : Nat} {w w1 : World} {F : Nat → Prop} {base : Nat} {v : Value} {l : List (Int × List Int)}
/-- A row's values, one cell each. -/
theorem prow_one {vs : List Value} (hl : vs.length = l.length * 2) (hvl : ∀ (i : Nat) (x : Int × List Int), l[i]? = some x → vs[i * 2]? = some (.int .i64 x.1) ∧ ∃ u, vs[i * 2 + 1]? = some u ∧ Far w F v u m x.2) : ∀ u ∈ vs, u.oneCell' = true := fun u hu => by
  obtain ⟨j, hj, e⟩ := List.getElem_of_mem hu
  have hi : j / 2 < l.length := by omega
  obtain ⟨h1, z, h2, h3⟩ := hvl (j / 2) _ (List.getElem?_eq_getElem hi)
  have hu' : vs[j]? = some u := by rw [List.getElem?_eq_getElem hj, e]
  rcases Nat.mod_two_eq_zero_or_one j with a | a
  · rw [show j / 2 * 2 = j by omega, hu'] at h1
    cases h1
    rfl
  · rw [show j / 2 * 2 + 1 = j by omega, hu'] at h2
    cases h2
    obtain ⟨g, c, rfl, _⟩ := h3
    rfl
/-- An element put in; all of it in a new row. -/
theorem PRow.insert (hm : 0 < m) (h : PRow e m w F base v l) (hFlt : ∀ k, F k → k < w.heap.size) {k : Nat} (hk : k ≤ l.length) {x : Int} {u : Value} {b : List Int} (hu : ∃ g c, u = .slice (some ⟨g, 0, none⟩) m c ∧ m ≤ c ∧ w.heap.size ≤ g ∧ g < w1.heap.size ∧ RB w1 w1.heap.size (some ⟨g, 0, none⟩) m b) {vs : List Value} (hvs : w.ownsRow base e 2 v l.length vs) (hvl : ∀ (i : Nat) (x : Int × List Int), l[i]? = some x → vs[i * 2]? = some (.int .i64 x.1) ∧ ∃ u, vs[i * 2 + 1]? = some u ∧ Far w F v u m x.2)
    {w2 : World} {v' : Value} (h1 : Below w.heap.size w w1) (h2 : Below w1.heap.size w1 w2) (hown : w2.ownsRow base e 2 v' (l.length + 1) (vs.take (k * 2) ++ [.int .i64 x, u] ++ vs.drop (k * 2))) (hnew : ∀ r, v'.ownBlock = some r → w1.heap.size ≤ r) :
    PRow e m w2 F base v' (l.take k ++ (x, b) :: l.drop k) := by
  have hs1 := h1.size
  have hs2 := h2.size
  have far : ∀ {u : Value} {y : List Int}, Far w F v u m y → Far w2 F v' u m y := fun {u y} ha => by
    obtain ⟨g, c, h4, h5, h6, h7, h8, h9⟩ := ha
    refine ⟨g, c, h4, h5, h6, fun e => ?_, by omega, h9.there hm ((h2.block g (by omega)).trans (h1.block g h8)) (by omega)⟩
    have := hnew g e
    omega
  have farx : Far w2 F v' u m b := by
    obtain ⟨g, c, h4, h5, h6, h8, h9⟩ := hu
    refine ⟨g, c, h4, h5, fun hf => ?_, fun e => ?_, by omega, h9.there hm (h2.block g h8) hs2⟩
    · have := hFlt g hf; omega
    · have := hnew g e; omega
  have hvlen : vs.length = l.length * 2 := hvs.1
  have hlen : (l.take k ++ (x, b) :: l.drop k).length = l.length + 1 := by
    rw [List.length_append, List.length_take, List.length_cons, List.length_drop]; omega
  refine ⟨⟨_, by rw [hlen]; exact hown, fun i y hy => ?_⟩, fun r hr hf => ?_⟩
  · rw [insert_get _ hk] at hy
    rw [insert2_get _ (by omega), insert2_get _ (by omega)]
    by_cases a : i < k
    · rw [if_pos a] at hy
      rw [if_pos (by omega), if_pos (by omega)]
      obtain ⟨h3, z, h4, h5⟩ := hvl i y hy
      exact ⟨h3, z, h4, far h5⟩
    · rw [if_neg a] at hy
      by_cases c : i = k
      · rw [if_pos c] at hy
        cases hy
        rw [if_neg (by omega), if_pos (by omega), if_neg (by omega), if_neg (by omega), if_pos (by omega)]
        exact ⟨rfl, u, rfl, farx⟩
      · rw [if_neg c] at hy
        rw [if_neg (by omega), if_neg (by omega), if_neg (by omega), if_neg (by omega), if_neg (by omega), if_neg (by omega)]
        obtain ⟨h3, z, h4, h5⟩ := hvl (i - 1) y hy
        exact ⟨by rw [show i * 2 - 2 = (i - 1) * 2 by omega]; exact h3, z, by rw [show i * 2 + 1 - 2 = (i - 1) * 2 + 1 by omega]; exact h4, far h5⟩
  · have := hnew r hr
    have := hFlt r hf
    omega
end

section
variable {w w1 w8 : World} {G Z : Nat → Prop} {xa : Addr} {T : DS} {q' xr base : Nat} {t : Int} {v : Value} {M : List (Int × List Int)}
/-- The list has one more; its new row is stored. -/
theorem RPg.insert (h : RPg w G Z base xa T q' t xr v M) (hZ : ∀ k, Z k → k < w.heap.size) (hbase : base ≤ w.heap.size) {k : Nat} (hk : k ≤ M.length) {i : Int} {u : Value} {l : List Int} (hset : setL M i l = M.take k ++ (i, l) :: M.drop k) (hb1 : Below w.heap.size w w1) (hb8 : Below w1.heap.size w1 w8) (hu : ∃ g c, u = .slice (some ⟨g, 0, none⟩) 240 c ∧ 240 ≤ c ∧ w.heap.size ≤ g ∧ g < w1.heap.size ∧ RB w1 w1.heap.size (some ⟨g, 0, none⟩) 240 l) {vs : List Value} (hvs : w.ownsRow base 101 2 v M.length vs) (hvl : ∀ (i : Nat) (x : Int × List Int), M[i]? = some x → vs[i * 2]? = some (.int .i64 x.1) ∧ ∃ u, vs[i * 2 + 1]? = some u ∧ Far w (rpX G q' xr Z) v u 240 x.2)
    {v' : Value} (hown : w8.ownsRow w1.heap.size 101 2 v' (M.length + 1) (vs.take (k * 2) ++ [.int .i64 i, u] ++ vs.drop (k * 2))) : RpDone w G Z base xa T q' t xr v (setL M i l) (w8.setCell ⟨xr, 1, none⟩ v') := by
  have hs1 := hb1.size
  have hs8 := hb8.size
  have hql := h.log.cells.2.2.2
  have hxl := h.cells.2.2.2
  have hb : Below w.heap.size w w8 := hb1.trans (hb8.mono hs1)
  have hlt : ∀ k, rpX G q' xr Z k → k < w.heap.size := fun k hk => by
    rcases hk with a | a | a | a
    · exact h.ref.lt k a
    · omega
    · omega
    · exact hZ k a
  have hrow := h.row.insert (by decide) hlt hk hu hvs hvl hb1 hb8 (own_base_le hown (by omega)) (fun r hr => (own_at hown r hr).1)
  rw [← hset] at hrow
  refine ⟨G, v', ⟨h.ref.keep (fun k hk => (Below.heap_setCell _ _ _ _ (fun e => h.xG (by have e' : k = xr := e; rw [← e']; exact hk))).trans (hb.block k (h.ref.lt k hk))), h.log.keep ((Below.heap_setCell _ _ _ _ (fun e => h.xq e.symm)).trans (hb.block q' hql)), h.qG, ?_, h.xG, h.xq, hrow.keep (by decide) (by simp) (fun _ _ h => h) (fun k _ hx => Below.heap_setCell _ _ _ _ (fun e => hx (.inr (.inr (.inl e))))), fun e => ?_⟩, ⟨hb.os, hb.tape, hb.output, Nat.le_trans hb.size (by simp), fun k hk hn => (Below.heap_setCell _ _ _ _ (fun e => hn (.inr (.inr (.inl e))))).trans (hb.block k hk)⟩, fun k hk => .inl hk⟩
  · exact heap_setCell_same w8 xr 1 _ _ v' ((hb.block xr hxl).trans h.me)
  · rw [hset] at e
    have := congrArg List.length e
    simp at this
end

end Go.Proofs.YtkpmfobmlaldfaaGreatDoor

/-
  A region that draws its order: an operation that reads a cell may be taken first, if that cell stands behind every operation that does not wait for it. Plain facts about the walk; no condition beyond what each says.
-/
namespace Go.Proofs.YtkpmfobmlaldfaaGreatDoor
open Go.RowKit
set_option maxRecDepth 100000
set_option linter.unusedVariables false

section
variable {P : Program} {ops : Array Oper} {Q : Exit → Act → World → Prop} {md : Region.Mode} {S : World → Prop}

/-- Whatever order is picked, and S holds behind every operation up to the first one that waits for operation i. -/
def wpAnyT (P : Program) (md : Region.Mode) (ops : Array Oper) (Q : Exit → Act → World → Prop) (S : World → Prop) (i : Nat) : Nat → Array Bool → Act → World → Prop
  | 0, listed, a, w => Region.ready md ops listed = [] ∧ Q .normal a w
  | fuel + 1, listed, a, w =>
    (Region.ready md ops listed = [] → Q .normal a w) ∧
    ∀ j ∈ Region.ready md ops listed, (Region.waitsFor md ops j i = true → wpOp P ops Q j (fun a' w' => wpAny P md ops Q fuel (listed.setIfInBounds j true) a' w') a w) ∧
      (Region.waitsFor md ops j i = false → wpOp P ops Q j (fun a' w' => S w' ∧ wpAnyT P md ops Q S i fuel (listed.setIfInBounds j true) a' w') a w)

theorem wpAny_of_T {i : Nat} : ∀ (fuel : Nat) (listed : Array Bool) (a : Act) (w : World), wpAnyT P md ops Q S i fuel listed a w → wpAny P md ops Q fuel listed a w
  | 0, _, _, _, h => h
  | fuel + 1, _, _, _, h => ⟨h.1, fun j hj => by
      cases hw : Region.waitsFor md ops j i
      · exact wpOp_mono (fun a' w' h' => wpAny_of_T fuel _ a' w' h'.2) ((h.2 j hj).2 hw)
      · exact (h.2 j hj).1 hw⟩

theorem wpAnyT_first {i : Nat} {oi : Oper} {v : Value} (hi : ops[i]? = some oi) (hsel : ∀ (j : Nat) (o : Oper) cs b, ops[j]? = some o → o.op ≠ .select cs b)
    (hQ : ∀ c a w, Q (.panic c) (a.put oi.dst v) w → Q (.panic c) a w) :
    ∀ (fuel : Nat) (listed : Array Bool) (a : Act) (w : World),
      (∀ j oj, ops[j]? = some oj → j ≠ i → listed.getD j true = false → (∀ e ∈ oj.after, Region.binds md e = true → e.on ≠ i) → oi.apart ops oj = true) →
      i ∈ Region.ready md ops listed → YieldsIf P ops S oi v a → S w →
      wpAnyT P md ops Q S i fuel (listed.setIfInBounds i true) (a.put oi.dst v) w → wpAny P md ops Q (fuel + 1) listed a w := by
  intro fuel
  induction fuel with
  | zero =>
    intro listed a w _ hr hy hS H
    refine ⟨fun h => (by rw [h] at hr; cases hr), fun j hj => ?_⟩
    by_cases hji : j = i
    · subst hji; exact hy.wpOp hi hS H
    · have := ready_mono hj hji
      rw [H.1] at this
      cases this
  | succ fuel ih =>
    intro listed a w hfree hr hy hS H
    refine ⟨fun h => (by rw [h] at hr; cases hr), fun j hj => ?_⟩
    by_cases hji : j = i
    · subst hji; exact hy.wpOp hi hS (wpAny_of_T _ _ _ _ H)
    · obtain ⟨hjun, oj, hoj, hall⟩ := mem_ready.1 hj
      have hnot : ∀ e ∈ oj.after, Region.binds md e = true → e.on ≠ i := fun e he hb heq => by
        have h1 := hall e he hb
        have h0 := (mem_ready.1 hr).1
        rw [heq] at h1
        rcases Nat.lt_or_ge i listed.size with h' | h'
        · simp [h'] at h0 h1; rw [h0] at h1; cases h1
        · simp [Array.getElem?_eq_none h'] at h1
      have hwf : Region.waitsFor md ops j i = false := by
        cases hw : Region.waitsFor md ops j i
        · rfl
        · obtain ⟨oj', hoj', e, he, hb, heq⟩ := Region.waitsFor_spec hw
          rw [hoj] at hoj'
          cases hoj'
          exact absurd heq (hnot e he hb)
      have h1 := (H.2 j (ready_mono hj hji)).2 hwf
      have h2 := wpOp_putIf hoj (hfree j oj hoj hji hjun hnot) (fun cs b => hsel i oi cs b hi) (fun cs b => hsel j oj cs b hoj) hQ hy h1
      have hfree' : ∀ k ok, ops[k]? = some ok → k ≠ i → (listed.setIfInBounds j true).getD k true = false →
          (∀ e ∈ ok.after, Region.binds md e = true → e.on ≠ i) → oi.apart ops ok = true := fun k ok hk hki hun hno => by
        refine hfree k ok hk hki ?_ hno
        by_cases hjk : j = k
        · subst hjk; exact hjun
        · rw [getD_set_ne true hjk] at hun; exact hun
      refine wpOp_mono (fun a' w' h3 => ih (listed.setIfInBounds j true) a' w' hfree' (ready_mono hr (Ne.symm hji)) h3.1 h3.2.1 ?_) h2
      rw [Array.setIfInBounds_comm _ _ hji]
      exact h3.2.2

/-- Take number i first: it reads cells that S speaks of. -/
theorem wpAny_take_read {i : Nat} {oi : Oper} {v : Value} {fuel : Nat} {listed : Array Bool} {a : Act} {w : World} (S : World → Prop) (hi : ops[i]? = some oi)
    (hs : Region.noSelect ops = true) (hf : Region.free md ops listed i = true) (hr : (Region.ready md ops listed).contains i = true)
    (hQ : ∀ c a w, Q (.panic c) (a.put oi.dst v) w → Q (.panic c) a w) (hy : YieldsIf P ops S oi v a) (hS : S w)
    (h : wpAnyT P md ops Q S i fuel (listed.setIfInBounds i true) (a.put oi.dst v) w) : wpAny P md ops Q (fuel + 1) listed a w :=
  wpAnyT_first hi (Region.noSelect_spec hs) hQ fuel listed a w (Region.free_spec hi hf) (by simpa using hr) hy hS h
/-- The one operation that may come up, S behind it. -/
theorem wpAnyT_one {i j fuel : Nat} {o : Oper} {listed : Array Bool} {a : Act} {w : World} (ho : ops[j]? = some o) (hr : Region.ready md ops listed = [j]) (hw : Region.waitsFor md ops j i = false)
    (h : ∀ K' : Act → World → Prop, (∀ a w, S w → wpAnyT P md ops Q S i fuel (listed.setIfInBounds j true) a w → K' a w) → if Region.wanted o (yielded ops a.tmps) = true then Oper.wp P o a w K' Q else K' (a.put o.dst undef) w) : wpAnyT P md ops Q S i (fuel + 1) listed a w := by
  refine ⟨fun h0 => (by rw [hr] at h0; cases h0), fun k hk => ?_⟩
  rw [hr] at hk
  obtain rfl := List.mem_singleton.1 hk
  exact ⟨fun e => (by rw [hw] at e; cases e), fun _ => wpOp_step ho (fun K' hK => h K' (fun a w h1 h2 => hK a w ⟨h1, h2⟩))⟩
/-- The one operation that may come up; it waits for number i. -/
theorem wpAnyT_last {i j fuel : Nat} {o : Oper} {listed : Array Bool} {a : Act} {w : World} (ho : ops[j]? = some o) (hr : Region.ready md ops listed = [j]) (hw : Region.waitsFor md ops j i = true)
    (h : ∀ K' : Act → World → Prop, (∀ a w, wpAny P md ops Q fuel (listed.setIfInBounds j true) a w → K' a w) → if Region.wanted o (yielded ops a.tmps) = true then Oper.wp P o a w K' Q else K' (a.put o.dst undef) w) : wpAnyT P md ops Q S i (fuel + 1) listed a w := by
  refine ⟨fun h0 => (by rw [hr] at h0; cases h0), fun k hk => ?_⟩
  rw [hr] at hk
  obtain rfl := List.mem_singleton.1 hk
  exact ⟨fun _ => wpOp_step ho h, fun e => (by rw [hw] at e; cases e)⟩
/-- The one operation that may come up yields its value. -/
theorem wpAnyT_yield {i j fuel : Nat} {o : Oper} {v : Value} {listed : Array Bool} {a : Act} {w : World} (ho : ops[j]? = some o) (hr : Region.ready md ops listed = [j]) (hw : Region.waitsFor md ops j i = false) (hy : YieldsIf P ops S o v a) (hS : S w)
    (h : wpAnyT P md ops Q S i fuel (listed.setIfInBounds j true) (a.put o.dst v) w) : wpAnyT P md ops Q S i (fuel + 1) listed a w := by
  refine ⟨fun h0 => (by rw [hr] at h0; cases h0), fun k hk => ?_⟩
  rw [hr] at hk
  obtain rfl := List.mem_singleton.1 hk
  exact ⟨fun e => (by rw [hw] at e; cases e), fun _ => hy.wpOp ho hS ⟨hS, h⟩⟩
theorem wpAny_one {j fuel : Nat} {o : Oper} {listed : Array Bool} {a : Act} {w : World} (ho : ops[j]? = some o) (hr : Region.ready md ops listed = [j])
    (h : ∀ K' : Act → World → Prop, (∀ a w, wpAny P md ops Q fuel (listed.setIfInBounds j true) a w → K' a w) → if Region.wanted o (yielded ops a.tmps) = true then Oper.wp P o a w K' Q else K' (a.put o.dst undef) w) : wpAny P md ops Q (fuel + 1) listed a w := by
  refine ⟨fun h0 => (by rw [hr] at h0; cases h0), fun k hk => ?_⟩
  rw [hr] at hk
  obtain rfl := List.mem_singleton.1 hk
  exact wpOp_step ho h
end
end Go.Proofs.YtkpmfobmlaldfaaGreatDoor

/-
  A region that draws its order and ends in one operation that breaks what the others keep: operations that read what S speaks of may be taken first. Plain facts about the walk; no condition beyond what each says.
-/
namespace Go.Proofs.YtkpmfobmlaldfaaGreatDoor
open Go.RowKit
set_option maxRecDepth 100000
set_option linter.unusedVariables false

section
variable {P : Program} {ops : Array Oper} {Q : Exit → Act → World → Prop} {md : Region.Mode} {S : World → Prop} {z : Nat}

/-- Whatever order is picked, and S holds behind every operation but number z. -/
def wpAnyZ (P : Program) (md : Region.Mode) (ops : Array Oper) (Q : Exit → Act → World → Prop) (S : World → Prop) (z : Nat) : Nat → Array Bool → Act → World → Prop
  | 0, listed, a, w => Region.ready md ops listed = [] ∧ Q .normal a w
  | fuel + 1, listed, a, w =>
    (Region.ready md ops listed = [] → Q .normal a w) ∧
    ∀ j ∈ Region.ready md ops listed, (j = z → wpOp P ops Q j (fun a' w' => wpAny P md ops Q fuel (listed.setIfInBounds j true) a' w') a w) ∧
      (j ≠ z → wpOp P ops Q j (fun a' w' => S w' ∧ wpAnyZ P md ops Q S z fuel (listed.setIfInBounds j true) a' w') a w)

theorem wpAny_of_Z : ∀ (fuel : Nat) (listed : Array Bool) (a : Act) (w : World), wpAnyZ P md ops Q S z fuel listed a w → wpAny P md ops Q fuel listed a w
  | 0, _, _, _, h => h
  | fuel + 1, _, _, _, h => ⟨h.1, fun j hj => by
      by_cases hw : j = z
      · exact (h.2 j hj).1 hw
      · exact wpOp_mono (fun a' w' h' => wpAny_of_Z fuel _ a' w' h'.2) ((h.2 j hj).2 hw)⟩

theorem wpAnyZ_first {i : Nat} {oi : Oper} {v : Value} (hi : ops[i]? = some oi) (hiz : i ≠ z) (hzw : Region.waitsFor md ops z i = true) (hsel : ∀ (j : Nat) (o : Oper) cs b, ops[j]? = some o → o.op ≠ .select cs b)
    (hQ : ∀ c a w, Q (.panic c) (a.put oi.dst v) w → Q (.panic c) a w) :
    ∀ (fuel : Nat) (listed : Array Bool) (a : Act) (w : World),
      (∀ j oj, ops[j]? = some oj → j ≠ i → listed.getD j true = false → (∀ e ∈ oj.after, Region.binds md e = true → e.on ≠ i) → oi.apart ops oj = true) →
      i ∈ Region.ready md ops listed → YieldsIf P ops S oi v a → S w →
      wpAnyZ P md ops Q S z fuel (listed.setIfInBounds i true) (a.put oi.dst v) w → wpAnyZ P md ops Q S z (fuel + 1) listed a w := by
  intro fuel
  induction fuel with
  | zero =>
    intro listed a w _ hr hy hS H
    refine ⟨fun h => (by rw [h] at hr; cases hr), fun j hj => ?_⟩
    by_cases hji : j = i
    · subst hji; exact ⟨fun e => absurd e hiz, fun _ => hy.wpOp hi hS ⟨hS, H⟩⟩
    · have := ready_mono hj hji
      rw [H.1] at this
      cases this
  | succ fuel ih =>
    intro listed a w hfree hr hy hS H
    refine ⟨fun h => (by rw [h] at hr; cases hr), fun j hj => ?_⟩
    by_cases hji : j = i
    · subst hji; exact ⟨fun e => absurd e hiz, fun _ => hy.wpOp hi hS ⟨hS, H⟩⟩
    · obtain ⟨hjun, oj, hoj, hall⟩ := mem_ready.1 hj
      have hnot : ∀ e ∈ oj.after, Region.binds md e = true → e.on ≠ i := fun e he hb heq => by
        have h1 := hall e he hb
        have h0 := (mem_ready.1 hr).1
        rw [heq] at h1
        rcases Nat.lt_or_ge i listed.size with h' | h'
        · simp [h'] at h0 h1; rw [h0] at h1; cases h1
        · simp [Array.getElem?_eq_none h'] at h1
      refine ⟨fun e => ?_, fun hjz => ?_⟩
      · subst e
        obtain ⟨oj', hoj', e, he, hb, heq⟩ := Region.waitsFor_spec hzw
        rw [hoj] at hoj'
        cases hoj'
        exact absurd heq (hnot e he hb)
      have h1 := (H.2 j (ready_mono hj hji)).2 hjz
      have h2 := wpOp_putIf hoj (hfree j oj hoj hji hjun hnot) (fun cs b => hsel i oi cs b hi) (fun cs b => hsel j oj cs b hoj) hQ hy h1
      have hfree' : ∀ k ok, ops[k]? = some ok → k ≠ i → (listed.setIfInBounds j true).getD k true = false →
          (∀ e ∈ ok.after, Region.binds md e = true → e.on ≠ i) → oi.apart ops ok = true := fun k ok hk hki hun hno => by
        refine hfree k ok hk hki ?_ hno
        by_cases hjk : j = k
        · subst hjk; exact hjun
        · rw [getD_set_ne true hjk] at hun; exact hun
      refine wpOp_mono (fun a' w' h3 => ⟨h3.2.1, ih (listed.setIfInBounds j true) a' w' hfree' (ready_mono hr (Ne.symm hji)) h3.1 h3.2.1 ?_⟩) h2
      rw [Array.setIfInBounds_comm _ _ hji]
      exact h3.2.2

/-- Take number i first: it is pure, or reads what S speaks of. -/
theorem wpAnyZ_take {i : Nat} {oi : Oper} {v : Value} {fuel : Nat} {listed : Array Bool} {a : Act} {w : World} (hi : ops[i]? = some oi) (hiz : i ≠ z) (hzw : Region.waitsFor md ops z i = true)
    (hs : Region.noSelect ops = true) (hf : Region.free md ops listed i = true) (hr : (Region.ready md ops listed).contains i = true)
    (hQ : ∀ c a w, Q (.panic c) (a.put oi.dst v) w → Q (.panic c) a w) (hy : YieldsIf P ops S oi v a) (hS : S w)
    (h : wpAnyZ P md ops Q S z fuel (listed.setIfInBounds i true) (a.put oi.dst v) w) : wpAnyZ P md ops Q S z (fuel + 1) listed a w :=
  wpAnyZ_first hi hiz hzw (Region.noSelect_spec hs) hQ fuel listed a w (Region.free_spec hi hf) (by simpa using hr) hy hS h
/-- The one operation that may come up, S behind it. -/
theorem wpAnyZ_one {j fuel : Nat} {o : Oper} {listed : Array Bool} {a : Act} {w : World} (ho : ops[j]? = some o) (hr : Region.ready md ops listed = [j]) (hjz : j ≠ z)
    (h : ∀ K' : Act → World → Prop, (∀ a w, S w → wpAnyZ P md ops Q S z fuel (listed.setIfInBounds j true) a w → K' a w) → if Region.wanted o (yielded ops a.tmps) = true then Oper.wp P o a w K' Q else K' (a.put o.dst undef) w) : wpAnyZ P md ops Q S z (fuel + 1) listed a w := by
  refine ⟨fun h0 => (by rw [hr] at h0; cases h0), fun k hk => ?_⟩
  rw [hr] at hk
  obtain rfl := List.mem_singleton.1 hk
  exact ⟨fun e => absurd e hjz, fun _ => wpOp_step ho (fun K' hK => h K' (fun a w h1 h2 => hK a w ⟨h1, h2⟩))⟩
/-- One of two may come up, S behind either. -/
theorem wpAnyZ_two {j k fuel : Nat} {o o' : Oper} {listed : Array Bool} {a : Act} {w : World} (ho : ops[j]? = some o) (ho' : ops[k]? = some o') (hr : Region.ready md ops listed = [j, k]) (hjz : j ≠ z) (hkz : k ≠ z)
    (h : ∀ K' : Act → World → Prop, (∀ a w, S w → wpAnyZ P md ops Q S z fuel (listed.setIfInBounds j true) a w → K' a w) → if Region.wanted o (yielded ops a.tmps) = true then Oper.wp P o a w K' Q else K' (a.put o.dst undef) w)
    (h' : ∀ K' : Act → World → Prop, (∀ a w, S w → wpAnyZ P md ops Q S z fuel (listed.setIfInBounds k true) a w → K' a w) → if Region.wanted o' (yielded ops a.tmps) = true then Oper.wp P o' a w K' Q else K' (a.put o'.dst undef) w) : wpAnyZ P md ops Q S z (fuel + 1) listed a w := by
  refine ⟨fun h0 => (by rw [hr] at h0; cases h0), fun m hm => ?_⟩
  rw [hr] at hm
  rcases List.mem_cons.1 hm with rfl | hm
  · exact ⟨fun e => absurd e hjz, fun _ => wpOp_step ho (fun K' hK => h K' (fun a w h1 h2 => hK a w ⟨h1, h2⟩))⟩
  · obtain rfl := List.mem_singleton.1 hm
    exact ⟨fun e => absurd e hkz, fun _ => wpOp_step ho' (fun K' hK => h' K' (fun a w h1 h2 => hK a w ⟨h1, h2⟩))⟩
/-- Number z comes up. -/
theorem wpAnyZ_last {fuel : Nat} {o : Oper} {listed : Array Bool} {a : Act} {w : World} (ho : ops[z]? = some o) (hr : Region.ready md ops listed = [z])
    (h : ∀ K' : Act → World → Prop, (∀ a w, wpAny P md ops Q fuel (listed.setIfInBounds z true) a w → K' a w) → if Region.wanted o (yielded ops a.tmps) = true then Oper.wp P o a w K' Q else K' (a.put o.dst undef) w) : wpAnyZ P md ops Q S z (fuel + 1) listed a w := by
  refine ⟨fun h0 => (by rw [hr] at h0; cases h0), fun k hk => ?_⟩
  rw [hr] at hk
  obtain rfl := List.mem_singleton.1 hk
  exact ⟨fun _ => wpOp_step ho h, fun e => absurd rfl e⟩
end
end Go.Proofs.YtkpmfobmlaldfaaGreatDoor

/-
  Contract of the plain pager's Set. Condition: numbers and lengths are ints.
-/
namespace Go.Proofs.YtkpmfobmlaldfaaGreatDoor
open Go.RowKit
set_option maxRecDepth 100000
set_option linter.unusedVariables false

section
variable {w w' : World} {G Z : Nat → Prop} {xa : Addr} {T : DS} {q' xr base : Nat} {t : Int} {v : Value} {M : List (Int × List Int)}

theorem RpDone.same (h : RPg w G Z base xa T q' t xr v M) : RpDone w G Z base xa T q' t xr v M w := ⟨G, v, h, ⟨rfl, rfl, rfl, Nat.le_refl _, fun _ _ _ => rfl⟩, fun k hk => .inl hk⟩
/-- A place of the list was written over. -/
theorem RPg.over {g k : Nat} {x : Int} {b b0 : List Int} {u : Value} (h : RPg w G Z base xa T q' t xr v M) (hv : v.ownBlock = some g) (hk : M[k]? = some (x, b0)) (hu : Far w (rpX G q' xr Z) v u 240 b) : RPg (w.setCell ⟨g, k * 2 + 1, none⟩ u) G Z base xa T q' t xr v (M.set k (x, b)) := by
  have ho := h.row.out g hv
  refine ⟨h.ref.keep (fun j hj => Below.heap_setCell _ _ _ _ (fun e => ho (.inl (by have e' : j = g := e; rw [← e']; exact hj)))), h.log.keep (Below.heap_setCell _ _ _ _ (fun e => ho (.inr (.inl (by have e' : q' = g := e; exact e'.symm))))), h.qG, (Below.heap_setCell _ _ _ _ (fun e => ho (.inr (.inr (.inl (by have e' : xr = g := e; exact e'.symm)))))).trans h.me, h.xG, h.xq, h.row.over (by decide) hv hk hu, fun e => ?_⟩
  have h0 : M = [] := by
    cases M with
    | nil => rfl
    | cons a r =>
      have := congrArg List.length e
      simp at this
  exact h.nil_ h0

set_option maxHeartbeats 6400000 in
theorem rpset_any (h : RPg w G Z base xa T q' t xr v M) (hZ : ∀ k, Z k → k < w.heap.size) (hbase : base ≤ w.heap.size) (hM : M.length ≤ 65536) (i : Int) {A : Option Addr} {n c B : Nat} {l : List Int} (hr : RB w B A n l) (hB : B ≤ w.heap.size) (hn : n ≤ maxLen) :
    Calls Tryz.prog 14 #[.pointer (some ⟨xr, 0, none⟩), .int .i64 i, .slice A n c] w fun e w' => e = .returned (.int .i64 (setPgE T i l)) ∧ RpDone w G Z base xa T q' t xr v (setPg T M i l) w' := by
  unfold maxLen at hn
  obtain ⟨m0, m1, _, hxl⟩ := h.cells
  have hlen := hr.len
  have HS := Lib.hid (RpDone.same h)
  have HP := Lib.hid (refLogPages_any h.ref h.log)
  have hP : T.P = pagesOf T.n := rfl
  by_cases h1 : i < 0
  · have hE : setPgE T i l = 1 := by unfold setPgE; rw [if_pos (.inl h1)]
    have hL : setPg T M i l = M := by unfold setPg; rw [if_pos (.inl h1)]
    rw [hE, hL]
    have k1 : decide (i < 0) = true := by simpa using h1
    clear h hE hL h1 hr
    go_enter Tryz.func14, Tryz.ntmps14
    go_wp2
    go_ret
    exact ⟨rfl, HS.out⟩
  have k1 : decide (i < 0) = false := by simpa using h1
  by_cases h2 : i ≥ T.P
  · have hE : setPgE T i l = 1 := by unfold setPgE; rw [if_pos (.inr (.inl h2))]
    have hL : setPg T M i l = M := by unfold setPg; rw [if_pos (.inr (.inl h2))]
    rw [hE, hL]
    have k2 : decide (pagesOf T.n ≤ i) = true := by simpa using (hP ▸ h2)
    clear h hE hL h1 h2 hr hP
    go_enter Tryz.func14, Tryz.ntmps14
    go_wp2_with fail
    refine HP.out.mono ?_
    rintro e w1 ⟨rfl, rfl⟩
    go_wp2
    go_ret
    exact ⟨rfl, HS.out⟩
  have k2 : decide (pagesOf T.n ≤ i) = false := by
    have h2' := h2
    rw [hP] at h2'
    simpa using h2'
  by_cases h3 : n = 240
  case neg =>
    have hE : setPgE T i l = 1 := by unfold setPgE; rw [if_pos (.inr (.inr (by rw [hlen]; exact h3)))]
    have hL : setPg T M i l = M := by unfold setPg; rw [if_pos (.inr (.inr (by rw [hlen]; exact h3)))]
    rw [hE, hL]
    have k3 : ((n : Int) != 240) = true := by simp; omega
    clear h hE hL h1 h2 h3 hr hP hlen
    go_enter Tryz.func14, Tryz.ntmps14
    go_wp2_with fail
    refine HP.out.mono ?_
    rintro e w1 ⟨rfl, rfl⟩
    go_wp2
    go_ret
    exact ⟨rfl, HS.out⟩
  subst h3
  have hok : ¬ (i < 0 ∨ i ≥ T.P ∨ l.length ≠ 240) := fun a => a.elim h1 (fun a => a.elim h2 (fun a => a hlen))
  have hE : setPgE T i l = 0 := by unfold setPgE; rw [if_neg hok]
  have hL : setPg T M i l = setL M i l := by unfold setPg; rw [if_neg hok]
  rw [hE, hL]
  clear hE hL hok h1 h2 hP HS hlen
  have HH := Lib.hid h
  have HR := Lib.hid hr
  have hrl := h.ref.lt
  have hql := h.log.cells.2.2.2
  obtain ⟨AM, cM, rfl, hcM, _⟩ := h.row.imgs (by decide)
  have h0row := h.row.row
  have HNIL := Lib.hid h.nil_
  have HOWN := Lib.hid (show ∀ g, (Value.slice AM M.length cM).ownBlock = some g → g < w.heap.size from fun g hg => by
    obtain ⟨vs0, hrow0, _⟩ := h.row.row
    exact (own_at hrow0 g hg).2)
  have HXL := Lib.hid (And.intro hxl (And.intro hrl hql))
  clear h hr hrl hql
  have HVS0 := Lib.hid h0row
  clear h0row
  generalize hN : M.length = N at *
  have HN := Lib.hid hN
  clear hN
  go_enter Tryz.func14, Tryz.ntmps14
  go_wp2_with fail
  refine HP.out.mono ?_
  rintro e w0 ⟨rfl, rfl⟩
  clear HP m0 m1
  go_wp2_with (at_builtin; refine wpList_append_bytes rfl _ _ rfl w.heap.size (.slice none 0 0) 0 [] rfl ⟨rfl, .inl ⟨rfl, rfl⟩⟩ _ A 240 c l rfl HR.out (by decide) (Nat.le_refl _) ?_; intro u w1 hown1 hg1 hb1; have HO1 := Lib.hid hown1; have HB1 := Lib.hid hb1; clear hown1 hg1 hb1)
  rcases HO1.out.2 with ⟨_, h0⟩ | ⟨g1, cap1, cur1, rfl, hg1, hhc1, _, _, _, _⟩
  · simp at h0
  have hh1 := HH.out.below HB1.out
  obtain ⟨m0, m1, _, hxl1⟩ := hh1.cells
  obtain ⟨vs, hrow0, hvl0⟩ := HVS0.out
  have HROW0 := Lib.hid (And.intro hrow0 hvl0)
  have hrow := own_stays hrow0 (fun g hg => HB1.out.block g (own_at hrow0 g hg).2)
  have HONE := Lib.hid (prow_one (w := w) (by rw [HN.out]; exact hrow0.1) hvl0)
  have hru1 : RB w1 w1.heap.size (some ⟨g1, 0, none⟩) 240 l := by simpa using RB.of_own HO1.out (by simpa using HR.out.bytes)
  have HG1 := Lib.hid (show w.heap.size ≤ g1 ∧ g1 < w1.heap.size ∧ RB w1 w1.heap.size (some ⟨g1, 0, none⟩) 240 l ∧ 240 ≤ cap1 from ⟨hg1, (Array.getElem?_eq_some_iff.1 hhc1).1, hru1, by omega⟩)
  clear HVS0 hrow0 hvl0 hru1
  obtain ⟨AM', cM', e3, _, himg⟩ := hh1.row.imgs (by decide)
  simp only [Value.slice.injEq] at e3
  obtain ⟨rfl, e4, rfl⟩ := e3
  clear e4
  rw [HN.out] at himg
  have HH1 := Lib.hid hh1
  have HI := Lib.hid himg
  have HROW := Lib.hid hrow
  clear hh1 himg hrow


  go_loop [8] (fun x => ∃ k : Nat, k ≤ N ∧ x = .int .i64 k ∧ Hid (∀ t z, t < k → M[t]? = some z → z.1 < i)) (fun x => N - (intOf x).toNat)
  case atStart => exact ⟨0, Nat.zero_le _, rfl, Lib.hid (fun t z ht => absurd ht (by omega))⟩
  case round =>
    obtain ⟨k, hk, rfl, hbef⟩ := hrel
    have hn63 : N ≤ 9223372036854775807 := by omega
    by_cases hlt : k < N
    · have hlt' : (k : Int) < (N : Int) := by omega
      obtain ⟨y, hy⟩ : ∃ y, M[k]? = some y := ⟨_, List.getElem?_eq_getElem (by rw [HN.out]; exact hlt)⟩
      obtain ⟨b, rfl, _, hbl, hat⟩ := HI.out.2 (by omega)
      obtain ⟨c1, D, m, cm, c2, _, _, _, _⟩ := hat k y hy
      have HY := Lib.hid hy
      obtain ⟨p, pl⟩ := y
      simp only at c1
      clear hat hy
      by_cases h4 : p < i
      · have k4 : decide (p < i) = true := by simpa using h4
        have HNX := Lib.hid (show ∀ t z, t < k + 1 → M[t]? = some z → z.1 < i from fun t z ht hz => by
          rcases Nat.lt_or_ge t k with a | a
          · exact hbef.out t z a hz
          · obtain rfl : t = k := by omega
            rw [HY.out] at hz
            cases hz
            exact h4)
        clear h4
        go_wp2
        go_round
        case rel => exact ⟨k + 1, by omega, by go_num, by first | exact HNX | exact Lib.hid (fun t a b ht hz => HNX.out t (a, b) ht hz)⟩
        case measure => simp [intOf]; omega
      have k4 : decide (p < i) = false := by simpa using h4
      by_cases h5 : p = i
      · have k5 : (p == i) = true := by simpa using h5
        have HSET := Lib.hid (setL_at (l := l) hbef.out HY.out h5)
        have hru := RB.of_own HO1.out (by simpa using HR.out.bytes)
        have hfar : Far w1 (rpX G q' xr Z) (.slice (some ⟨b, 0, none⟩) N cM) (.slice (some ⟨g1, 0, none⟩) 240 cap1) 240 l := by
          refine ⟨g1, cap1, rfl, by omega, fun a => ?_, fun e => ?_, (Array.getElem?_eq_some_iff.1 hhc1).1, ?_⟩
          · rcases a with a | a | a | a
            · have := HXL.out.2.1 g1 a; omega
            · have := HXL.out.2.2; omega
            · have := HXL.out.1; omega
            · have := hZ g1 a; omega
          · have := HOWN.out g1 e; omega
          · simpa using hru
        have hfz : w1.frozen? ⟨b, k * 2 + 1, none⟩ = false := by
          rcases HROW.out.2 with ⟨e, _⟩ | ⟨g, cap, cur, hv, _, hg, _⟩
          · cases e
          · injection hv with e1 e2 e3
            injection e1 with e1
            injection e1 with e1
            subst e1
            simp [World.frozen?, hg]
        have HOV := Lib.hid (HH1.out.over (g := b) (x := i) rfl (by rw [← h5]; exact HY.out) hfar)
        have HEND := Lib.hid (show RpDone w G Z base xa T q' t xr (.slice (some ⟨b, 0, none⟩) N cM) (setL M i l) (w1.setCell ⟨b, k * 2 + 1, none⟩ (.slice (some ⟨g1, 0, none⟩) 240 cap1)) from ⟨G, .slice (some ⟨b, 0, none⟩) N cM, by rw [HSET.out]; exact HOV.out, ⟨HB1.out.os, HB1.out.tape, HB1.out.output, Nat.le_trans HB1.out.size (by simp), fun j hj hn => (Below.heap_setCell _ _ _ _ (fun e => hn (.inr (.inr (.inr (by have e' : j = b := e; rw [e']; rfl)))))).trans (HB1.out.block j hj)⟩, fun j hj => .inl hj⟩)
        clear HOV hfar hru h5 h4
        go_wp2
        go_ret
        exact ⟨rfl, HEND.out⟩
      · have k5 : (p == i) = false := by simpa using h5
        have x1 : w1.drew.cell? ⟨xr, 1, none⟩ = some (.slice (some ⟨b, 0, none⟩) N cM) := m1
        have hxz : w1.frozen? ⟨xr, 1, none⟩ = false := HH1.out.cells.2.2.1
        have hvl : vs.length = N * 2 := HROW.out.1
        have HCV0 := Lib.hid (fun j u (hj : vs[j]? = some u) => World.ownsRow.cells (g := b) HROW.out rfl j u hj)
        have HCV := Lib.hid (show ∀ j u, vs[j]? = some u → w1.drew.cell? ((⟨b, 0, none⟩ : Addr).add j) = some u from fun j u hj => HCV0.out j u hj)
        have HBL := Lib.hid (show ∀ j, ((⟨b, 0, none⟩ : Addr).add j).block < w1.heap.size from fun j => by rw [img_add]; exact (own_at HROW.out b rfl).2)
        have HSET := Lib.hid (setL_in (l := l) hbef.out (fun y hy => by rw [HY.out] at hy; cases hy; show i < p; omega) (by rw [HN.out]; omega))
        have hkc : (k : Int) ≤ (cM : Int) := by omega
        have hkn : (k : Int) ≤ (N : Int) := by omega
        have hNc : (N : Int) ≤ (cM : Int) := by omega
        have hk0 : (0 : Int) ≤ (k : Int) := by omega
        have hnk : ¬ cM = k := by omega
        clear hlt'
        go_wp2_with fail
        refine wp_region_any (by rfl) ?_
        change wpAny _ _ _ _ _ _ _ w1.drew
        refine wpAny_of_Z (S := fun wz => wz.cell? ⟨xr, 1, none⟩ = some (.slice (some ⟨b, 0, none⟩) N cM)) (z := 22) _ _ _ _ ?_
        refine wpAnyZ_take (i := 0) (oi := { dst := some 75, op := _, type := _, pos := _, after := _, guard := _ }) (v := .pointer (some ⟨xr, 0, none⟩)) rfl (by decide) (by kernel_rfl) (by kernel_rfl) (by kernel_rfl) (by kernel_rfl) (fun _ _ _ h => h) (Or.inl ⟨by rfl, fun wz hS => ?_⟩) x1 ?_
        · go_simp
        try simp only [Act.put, List.setIfInBounds_toArray, List.set_cons_zero, List.set_cons_succ]
        refine wpAnyZ_take (i := 1) (oi := { dst := some 76, op := _, type := _, pos := _, after := _, guard := _ }) (v := .pointer (some ⟨xr, 0, none⟩)) rfl (by decide) (by kernel_rfl) (by kernel_rfl) (by kernel_rfl) (by kernel_rfl) (fun _ _ _ h => h) (Or.inl ⟨by rfl, fun wz hS => ?_⟩) x1 ?_
        · go_simp
        try simp only [Act.put, List.setIfInBounds_toArray, List.set_cons_zero, List.set_cons_succ]
        refine wpAnyZ_take (i := 2) (oi := { dst := some 77, op := _, type := _, pos := _, after := _, guard := _ }) (v := .pointer (some ⟨xr, 0, none⟩)) rfl (by decide) (by kernel_rfl) (by kernel_rfl) (by kernel_rfl) (by kernel_rfl) (fun _ _ _ h => h) (Or.inl ⟨by rfl, fun wz hS => ?_⟩) x1 ?_
        · go_simp
        try simp only [Act.put, List.setIfInBounds_toArray, List.set_cons_zero, List.set_cons_succ]
        refine wpAnyZ_take (i := 3) (oi := { dst := some 78, op := _, type := _, pos := _, after := _, guard := _ }) (v := .pointer (some ⟨xr, 1, none⟩)) rfl (by decide) (by kernel_rfl) (by kernel_rfl) (by kernel_rfl) (by kernel_rfl) (fun _ _ _ h => h) (Or.inl ⟨by rfl, fun wz hS => ?_⟩) x1 ?_
        · go_simp
        try simp only [Act.put, List.setIfInBounds_toArray, List.set_cons_zero, List.set_cons_succ]
        refine wpAnyZ_take (i := 4) (oi := { dst := some 79, op := _, type := _, pos := _, after := _, guard := _ }) (v := .slice (some ⟨b, 0, none⟩) N cM) rfl (by decide) (by kernel_rfl) (by kernel_rfl) (by kernel_rfl) (by kernel_rfl) (fun _ _ _ h => h) (Or.inl ⟨by rfl, fun wz hS => ?_⟩) x1 ?_
        · go_simp
        try simp only [Act.put, List.setIfInBounds_toArray, List.set_cons_zero, List.set_cons_succ]
        refine wpAnyZ_take (i := 5) (oi := { dst := some 80, op := _, type := _, pos := _, after := _, guard := _ }) (v := .int .i64 ((k : Nat) : Int)) rfl (by decide) (by kernel_rfl) (by kernel_rfl) (by kernel_rfl) (by kernel_rfl) (fun _ _ _ h => h) (Or.inl ⟨by rfl, fun wz hS => ?_⟩) x1 ?_
        · go_simp
        try simp only [Act.put, List.setIfInBounds_toArray, List.set_cons_zero, List.set_cons_succ]
        refine wpAnyZ_take (i := 6) (oi := { dst := some 81, op := _, type := _, pos := _, after := _, guard := _ }) (v := .slice (some ⟨b, 0, none⟩) k cM) rfl (by decide) (by kernel_rfl) (by kernel_rfl) (by kernel_rfl) (by kernel_rfl) (fun _ _ _ h => h) (Or.inl ⟨by rfl, fun wz hS => ?_⟩) x1 ?_
        · go_simp
          all_goals omega
        try simp only [Act.put, List.setIfInBounds_toArray, List.set_cons_zero, List.set_cons_succ]
        refine wpAnyZ_take (i := 8) (oi := { dst := some 83, op := _, type := _, pos := _, after := _, guard := _ }) (v := .int .i64 i) rfl (by decide) (by kernel_rfl) (by kernel_rfl) (by kernel_rfl) (by kernel_rfl) (fun _ _ _ h => h) (Or.inl ⟨by rfl, fun wz hS => ?_⟩) x1 ?_
        · go_simp
        try simp only [Act.put, List.setIfInBounds_toArray, List.set_cons_zero, List.set_cons_succ]
        refine wpAnyZ_take (i := 9) (oi := { dst := some 84, op := _, type := _, pos := _, after := _, guard := _ }) (v := .slice (some ⟨g1, 0, none⟩) 240 cap1) rfl (by decide) (by kernel_rfl) (by kernel_rfl) (by kernel_rfl) (by kernel_rfl) (fun _ _ _ h => h) (Or.inl ⟨by rfl, fun wz hS => ?_⟩) x1 ?_
        · go_simp
        try simp only [Act.put, List.setIfInBounds_toArray, List.set_cons_zero, List.set_cons_succ]
        refine wpAnyZ_take (i := 10) (oi := { dst := some 85, op := _, type := _, pos := _, after := _, guard := _ }) (v := .agg #[.int .i64 i, .slice (some ⟨g1, 0, none⟩) 240 cap1]) rfl (by decide) (by kernel_rfl) (by kernel_rfl) (by kernel_rfl) (by kernel_rfl) (fun _ _ _ h => h) (Or.inl ⟨by rfl, fun wz hS => ?_⟩) x1 ?_
        · go_simp
        try simp only [Act.put, List.setIfInBounds_toArray, List.set_cons_zero, List.set_cons_succ]
        refine wpAnyZ_take (i := 13) (oi := { dst := some 88, op := _, type := _, pos := _, after := _, guard := _ }) (v := .pointer (some ⟨xr, 0, none⟩)) rfl (by decide) (by kernel_rfl) (by kernel_rfl) (by kernel_rfl) (by kernel_rfl) (fun _ _ _ h => h) (Or.inl ⟨by rfl, fun wz hS => ?_⟩) x1 ?_
        · go_simp
        try simp only [Act.put, List.setIfInBounds_toArray, List.set_cons_zero, List.set_cons_succ]
        refine wpAnyZ_take (i := 14) (oi := { dst := some 89, op := _, type := _, pos := _, after := _, guard := _ }) (v := .pointer (some ⟨xr, 0, none⟩)) rfl (by decide) (by kernel_rfl) (by kernel_rfl) (by kernel_rfl) (by kernel_rfl) (fun _ _ _ h => h) (Or.inl ⟨by rfl, fun wz hS => ?_⟩) x1 ?_
        · go_simp
        try simp only [Act.put, List.setIfInBounds_toArray, List.set_cons_zero, List.set_cons_succ]
        refine wpAnyZ_take (i := 15) (oi := { dst := some 90, op := _, type := _, pos := _, after := _, guard := _ }) (v := .pointer (some ⟨xr, 1, none⟩)) rfl (by decide) (by kernel_rfl) (by kernel_rfl) (by kernel_rfl) (by kernel_rfl) (fun _ _ _ h => h) (Or.inl ⟨by rfl, fun wz hS => ?_⟩) x1 ?_
        · go_simp
        try simp only [Act.put, List.setIfInBounds_toArray, List.set_cons_zero, List.set_cons_succ]
        refine wpAnyZ_take (i := 16) (oi := { dst := some 91, op := _, type := _, pos := _, after := _, guard := _ }) (v := .slice (some ⟨b, 0, none⟩) N cM) rfl (by decide) (by kernel_rfl) (by kernel_rfl) (by kernel_rfl) (by kernel_rfl) (fun _ _ _ h => h) (Or.inl ⟨by rfl, fun wz hS => ?_⟩) x1 ?_
        · go_simp
        try simp only [Act.put, List.setIfInBounds_toArray, List.set_cons_zero, List.set_cons_succ]
        refine wpAnyZ_take (i := 17) (oi := { dst := some 92, op := _, type := _, pos := _, after := _, guard := _ }) (v := .int .i64 ((k : Nat) : Int)) rfl (by decide) (by kernel_rfl) (by kernel_rfl) (by kernel_rfl) (by kernel_rfl) (fun _ _ _ h => h) (Or.inl ⟨by rfl, fun wz hS => ?_⟩) x1 ?_
        · go_simp
        try simp only [Act.put, List.setIfInBounds_toArray, List.set_cons_zero, List.set_cons_succ]
        refine wpAnyZ_take (i := 18) (oi := { dst := some 93, op := _, type := _, pos := _, after := _, guard := _ }) (v := .slice (some ⟨b, k * 2, none⟩) (N - k) (cM - k)) rfl (by decide) (by kernel_rfl) (by kernel_rfl) (by kernel_rfl) (by kernel_rfl) (fun _ _ _ h => h) (Or.inl ⟨by rfl, fun wz hS => ?_⟩) x1 ?_
        · go_simp
          all_goals omega
        try simp only [Act.put, List.setIfInBounds_toArray, List.set_cons_zero, List.set_cons_succ]
        refine wpAnyZ_two (j := 7) (k := 11) (o := { dst := some 82, op := _, type := _, pos := _, after := _, guard := none }) (o' := { dst := some 86, op := _, type := _, pos := _, after := _, guard := none }) rfl rfl (by kernel_rfl) (by decide) (by decide) ?_ ?_
        · intro K1 hK1
          have o0 : w1.drew.ownsRow w1.heap.size 101 2 (.slice none 0 0) 0 [] := ⟨rfl, .inl ⟨rfl, rfl⟩⟩
          with_reducible refine step_append_imgs ?_ (.const (.slice none 0 0)) (.tmp 81) ?_ w1.heap.size (.slice none 0 0) 0 [] ?_ (some ⟨b, 0, none⟩) k cM ?_ o0 (vs.take (k * 2)) (by rw [List.length_take]; omega) (fun j u hj => ⟨_, rfl, HCV.out j u (by rw [List.getElem?_take] at hj; split at hj; exact hj; cases hj)⟩) (fun u hu => HONE.out u (List.mem_of_mem_take hu)) (by omega) (Nat.le_refl _) ?_
          · rfl
          · rfl
          · rfl
          · rfl
          intro A6 c6 w6 hown6 hgr6 hl6
          generalize hk6 : 0 + k = k6 at hown6 hl6 ⊢
          have HK6 := Lib.hid hk6
          clear hk6
          have hb6 : Below w1.heap.size w1 w6 := ((Below.refl w1.heap.size w1).drew).grown hgr6 (Nat.le_refl _) (fun k hk => by cases hk)
          have y6 : w6.cell? ⟨xr, 1, none⟩ = some (.slice (some ⟨b, 0, none⟩) N cM) := (hb6.cell (p := ⟨xr, 1, none⟩) hxl1).trans m1
          refine hK1 _ _ y6 ?_
          clear hK1 K1
          try simp only [Act.put, List.setIfInBounds_toArray, List.set_cons_zero, List.set_cons_succ]
          refine wpAnyZ_one (j := 11) (o := { dst := some 86, op := _, type := _, pos := _, after := _, guard := none }) rfl (by kernel_rfl) (by decide) ?_
          intro K1 hK1
          rw [if_pos (by rfl)]
          go_simp
          have hW : Below w1.heap.size w1 (w6.alloc (.cells #[.int .i64 i, .slice (some ⟨g1, 0, none⟩) 240 cap1] 101)) := hb6.alloc hb6.size _
          have yW : (w6.alloc (.cells #[.int .i64 i, .slice (some ⟨g1, 0, none⟩) 240 cap1] 101)).cell? ⟨xr, 1, none⟩ = some (.slice (some ⟨b, 0, none⟩) N cM) := (hW.cell (p := ⟨xr, 1, none⟩) hxl1).trans m1
          have hlit : (w6.alloc (.cells #[.int .i64 i, .slice (some ⟨g1, 0, none⟩) 240 cap1] 101)).heap[w6.heap.size]? = some (.cells #[.int .i64 i, .slice (some ⟨g1, 0, none⟩) 240 cap1] 101 (0, 0)) := heap_alloc_new _ _
          have hgl := hb6.size
          have hownW := hown6.alloc (.cells #[.int .i64 i, .slice (some ⟨g1, 0, none⟩) 240 cap1] 101)
          refine hK1 _ _ yW ?_
          clear hK1 K1 hown6 hgr6 hl6 hb6 y6
          generalize w6.alloc (.cells #[.int .i64 i, .slice (some ⟨g1, 0, none⟩) 240 cap1] 101) = W at hW yW hlit hownW ⊢
          generalize w6.heap.size = gl at hlit hgl ⊢
          try simp only [Act.put, List.setIfInBounds_toArray, List.set_cons_zero, List.set_cons_succ]
          have hone2 : ∀ u ∈ [Value.int .i64 i, .slice (some ⟨g1, 0, none⟩) 240 cap1], u.oneCell' = true := fun u hu => by simp at hu; rcases hu with rfl | rfl <;> rfl
          refine wpAnyZ_one (j := 12) (o := { dst := some 87, op := _, type := _, pos := _, after := _, guard := none }) rfl (by kernel_rfl) (by decide) ?_
          intro K1 hK1
          with_reducible refine step_append_imgs ?_ (.tmp 82) (.tmp 86) ?_ w1.heap.size (.slice A6 k6 c6) k6 _ ?_ (some ⟨gl, 0, none⟩) 1 1 ?_ hownW [.int .i64 i, .slice (some ⟨g1, 0, none⟩) 240 cap1] rfl (fun j u hj => ⟨_, rfl, World.news_of_block hlit j u hj⟩) hone2 (by have := HK6.out; omega) hW.size ?_
          · rfl
          · rfl
          · rfl
          · rfl
          intro A7 c7 w7 hown7 hgr7 hl7
          generalize hk7 : k6 + 1 = k7 at hown7 hl7 ⊢
          have HK7 := Lib.hid hk7
          clear hk7
          have h7 : Below w1.heap.size w1 w7 := hW.grown hgr7 hW.size (fun k hk => (own_at hownW k hk).1)
          have y7 : w7.cell? ⟨xr, 1, none⟩ = some (.slice (some ⟨b, 0, none⟩) N cM) := (h7.cell (p := ⟨xr, 1, none⟩) hxl1).trans m1
          refine hK1 _ _ y7 ?_
          clear hK1 K1 hgr7 hl7 hlit hownW hW yW
          try simp only [Act.put, List.setIfInBounds_toArray, List.set_cons_zero, List.set_cons_succ]
          have HC7 := Lib.hid (fun j u (hj : vs[j]? = some u) => (h7.cell (p := (⟨b, 0, none⟩ : Addr).add j) (HBL.out j)).trans (HCV0.out j u hj))
          refine wpAnyZ_one (j := 19) (o := { dst := some 94, op := _, type := _, pos := _, after := _, guard := none }) rfl (by kernel_rfl) (by decide) ?_
          intro K1 hK1
          with_reducible refine step_append_imgs ?_ (.tmp 87) (.tmp 93) ?_ w1.heap.size (.slice A7 k7 c7) k7 _ ?_ (some ⟨b, k * 2, none⟩) (N - k) (cM - k) ?_ hown7 (vs.drop (k * 2)) (by rw [List.length_drop]; omega) (fun j u hj => ⟨_, rfl, by have := HC7.out (k * 2 + j) u (by rw [List.getElem?_drop] at hj; exact hj); rw [show ((⟨b, k * 2, none⟩ : Addr).add j) = ((⟨b, 0, none⟩ : Addr).add (k * 2 + j)) from by rw [img_add, img_add, Nat.zero_add]]; exact this⟩) (fun u hu => HONE.out u (List.mem_of_mem_drop hu)) (by have := HK6.out; have := HK7.out; omega) h7.size ?_
          · rfl
          · rfl
          · rfl
          · rfl
          intro A8 c8 w8 hown8 hgr8 hl8
          generalize hk8 : k7 + (N - k) = k8 at hown8 hl8 ⊢
          have HK8 := Lib.hid hk8
          clear hk8
          have h8 : Below w1.heap.size w1 w8 := h7.grown hgr8 h7.size (fun k hk => (own_at hown7 k hk).1)
          have y8 : w8.cell? ⟨xr, 1, none⟩ = some (.slice (some ⟨b, 0, none⟩) N cM) := (h8.cell (p := ⟨xr, 1, none⟩) hxl1).trans m1
          have f8 : w8.frozen? ⟨xr, 1, none⟩ = false := (h8.frozen (p := ⟨xr, 1, none⟩) hxl1).trans hxz
          refine hK1 _ _ y8 ?_
          clear hK1 K1 hgr8 hl8 hown7 h7 y7
          try simp only [Act.put, List.setIfInBounds_toArray, List.set_cons_zero, List.set_cons_succ]
          refine wpAnyZ_one (j := 20) (o := { dst := some 95, op := _, type := _, pos := _, after := _, guard := _ }) rfl (by kernel_rfl) (by decide) ?_
          intro K1 hK1
          rw [if_pos (by rfl)]
          go_simp
          refine hK1 _ _ y8 ?_
          clear hK1 K1
          try simp only [Act.put, List.setIfInBounds_toArray, List.set_cons_zero, List.set_cons_succ]
          refine wpAnyZ_one (j := 21) (o := { dst := some 96, op := _, type := _, pos := _, after := _, guard := _ }) rfl (by kernel_rfl) (by decide) ?_
          intro K1 hK1
          rw [if_pos (by rfl)]
          go_simp
          refine hK1 _ _ y8 ?_
          clear hK1 K1
          try simp only [Act.put, List.setIfInBounds_toArray, List.set_cons_zero, List.set_cons_succ]
          refine wpAnyZ_last (o := { dst := none, op := _, type := _, pos := _, after := _, guard := _ }) rfl (by kernel_rfl) ?_
          intro K1 hK1
          rw [if_pos (by rfl)]
          go_simp
          refine hK1 _ _ ?_
          clear hK1 K1
          refine wpAny_done (by kernel_rfl) ?_ _
          have HEND := Lib.hid (HH.out.insert (k := k) hZ hbase (by rw [HN.out]; omega) HSET.out HB1.out h8 ⟨g1, cap1, rfl, HG1.out.2.2.2, HG1.out.1, HG1.out.2.1, HG1.out.2.2.1⟩ (by rw [HN.out]; exact HROW0.out.1) HROW0.out.2 (v' := .slice A8 k8 c8) (by rw [show M.length + 1 = k8 by rw [HN.out]; have := HK6.out; have := HK7.out; have := HK8.out; omega]; simpa using hown8))
          clear hown8 h8 y8 f8
          go_wp2
          go_ret
          exact ⟨rfl, HEND.out⟩
        · intro K1 hK1
          rw [if_pos (by rfl)]
          go_simp
          have hW0 : Below w1.heap.size w1 (w1.alloc (.cells #[.int .i64 i, .slice (some ⟨g1, 0, none⟩) 240 cap1] 101)).drew := ((Below.refl w1.heap.size w1).alloc (Nat.le_refl _) _).drew
          have yW0 : (w1.alloc (.cells #[.int .i64 i, .slice (some ⟨g1, 0, none⟩) 240 cap1] 101)).drew.cell? ⟨xr, 1, none⟩ = some (.slice (some ⟨b, 0, none⟩) N cM) := (hW0.cell (p := ⟨xr, 1, none⟩) hxl1).trans m1
          have hlit0 : (w1.alloc (.cells #[.int .i64 i, .slice (some ⟨g1, 0, none⟩) 240 cap1] 101)).drew.heap[w1.heap.size]? = some (.cells #[.int .i64 i, .slice (some ⟨g1, 0, none⟩) 240 cap1] 101 (0, 0)) := heap_alloc_new w1 _
          have hsW0 : (w1.alloc (.cells #[.int .i64 i, .slice (some ⟨g1, 0, none⟩) 240 cap1] 101)).drew.heap.size = w1.heap.size + 1 := by show (w1.alloc _).heap.size = _; simp
          have HCW := Lib.hid (fun j u (hj : vs[j]? = some u) => (hW0.cell (p := (⟨b, 0, none⟩ : Addr).add j) (HBL.out j)).trans (HCV0.out j u hj))
          refine hK1 _ _ yW0 ?_
          clear hK1 K1
          try simp only [Act.put, List.setIfInBounds_toArray, List.set_cons_zero, List.set_cons_succ]
          refine wpAnyZ_one (j := 7) (o := { dst := some 82, op := _, type := _, pos := _, after := _, guard := none }) rfl (by kernel_rfl) (by decide) ?_
          intro K1 hK1
          have o0 : (w1.alloc (.cells #[.int .i64 i, .slice (some ⟨g1, 0, none⟩) 240 cap1] 101)).drew.ownsRow w1.heap.size 101 2 (.slice none 0 0) 0 [] := ⟨rfl, .inl ⟨rfl, rfl⟩⟩
          with_reducible refine step_append_imgs ?_ (.const (.slice none 0 0)) (.tmp 81) ?_ w1.heap.size (.slice none 0 0) 0 [] ?_ (some ⟨b, 0, none⟩) k cM ?_ o0 (vs.take (k * 2)) (by rw [List.length_take]; omega) (fun j u hj => ⟨_, rfl, HCW.out j u (by rw [List.getElem?_take] at hj; split at hj; exact hj; cases hj)⟩) (fun u hu => HONE.out u (List.mem_of_mem_take hu)) (by omega) (by simp) ?_
          · rfl
          · rfl
          · rfl
          · rfl
          intro A6 c6 w6 hown6 hgr6 hl6
          generalize hk6 : 0 + k = k6 at hown6 hl6 ⊢
          have HK6 := Lib.hid hk6
          clear hk6
          have hW : Below w1.heap.size w1 w6 := hW0.grown hgr6 (by rw [hsW0]; omega) (fun k hk => by cases hk)
          have yW : w6.cell? ⟨xr, 1, none⟩ = some (.slice (some ⟨b, 0, none⟩) N cM) := (hW.cell (p := ⟨xr, 1, none⟩) hxl1).trans m1
          have hlit : w6.heap[w1.heap.size]? = some (.cells #[.int .i64 i, .slice (some ⟨g1, 0, none⟩) 240 cap1] 101 (0, 0)) := (hgr6.block _ (by rw [hsW0]; omega) (fun e => by cases e)).trans hlit0
          have hgl : w1.heap.size ≤ w1.heap.size := Nat.le_refl _
          have hownW := hown6
          refine hK1 _ _ yW ?_
          rw [Array.setIfInBounds_comm _ _ (show (11 : Nat) ≠ 7 by decide)]
          clear hK1 K1 hown6 hgr6 hl6 hW0 yW0 hlit0 hsW0
          generalize w6 = W at hW yW hlit hownW ⊢
          generalize hgg : w1.heap.size = gl at hlit hgl
          try simp only [Act.put, List.setIfInBounds_toArray, List.set_cons_zero, List.set_cons_succ]
          have hone2 : ∀ u ∈ [Value.int .i64 i, .slice (some ⟨g1, 0, none⟩) 240 cap1], u.oneCell' = true := fun u hu => by simp at hu; rcases hu with rfl | rfl <;> rfl
          refine wpAnyZ_one (j := 12) (o := { dst := some 87, op := _, type := _, pos := _, after := _, guard := none }) rfl (by kernel_rfl) (by decide) ?_
          intro K1 hK1
          with_reducible refine step_append_imgs ?_ (.tmp 82) (.tmp 86) ?_ w1.heap.size (.slice A6 k6 c6) k6 _ ?_ (some ⟨gl, 0, none⟩) 1 1 ?_ hownW [.int .i64 i, .slice (some ⟨g1, 0, none⟩) 240 cap1] rfl (fun j u hj => ⟨_, rfl, World.news_of_block hlit j u hj⟩) hone2 (by have := HK6.out; omega) hW.size ?_
          · rfl
          · rfl
          · rfl
          · rfl
          intro A7 c7 w7 hown7 hgr7 hl7
          generalize hk7 : k6 + 1 = k7 at hown7 hl7 ⊢
          have HK7 := Lib.hid hk7
          clear hk7
          have h7 : Below w1.heap.size w1 w7 := hW.grown hgr7 hW.size (fun k hk => (own_at hownW k hk).1)
          have y7 : w7.cell? ⟨xr, 1, none⟩ = some (.slice (some ⟨b, 0, none⟩) N cM) := (h7.cell (p := ⟨xr, 1, none⟩) hxl1).trans m1
          refine hK1 _ _ y7 ?_
          clear hK1 K1 hgr7 hl7 hlit hownW hW yW
          try simp only [Act.put, List.setIfInBounds_toArray, List.set_cons_zero, List.set_cons_succ]
          have HC7 := Lib.hid (fun j u (hj : vs[j]? = some u) => (h7.cell (p := (⟨b, 0, none⟩ : Addr).add j) (HBL.out j)).trans (HCV0.out j u hj))
          refine wpAnyZ_one (j := 19) (o := { dst := some 94, op := _, type := _, pos := _, after := _, guard := none }) rfl (by kernel_rfl) (by decide) ?_
          intro K1 hK1
          with_reducible refine step_append_imgs ?_ (.tmp 87) (.tmp 93) ?_ w1.heap.size (.slice A7 k7 c7) k7 _ ?_ (some ⟨b, k * 2, none⟩) (N - k) (cM - k) ?_ hown7 (vs.drop (k * 2)) (by rw [List.length_drop]; omega) (fun j u hj => ⟨_, rfl, by have := HC7.out (k * 2 + j) u (by rw [List.getElem?_drop] at hj; exact hj); rw [show ((⟨b, k * 2, none⟩ : Addr).add j) = ((⟨b, 0, none⟩ : Addr).add (k * 2 + j)) from by rw [img_add, img_add, Nat.zero_add]]; exact this⟩) (fun u hu => HONE.out u (List.mem_of_mem_drop hu)) (by have := HK6.out; have := HK7.out; omega) h7.size ?_
          · rfl
          · rfl
          · rfl
          · rfl
          intro A8 c8 w8 hown8 hgr8 hl8
          generalize hk8 : k7 + (N - k) = k8 at hown8 hl8 ⊢
          have HK8 := Lib.hid hk8
          clear hk8
          have h8 : Below w1.heap.size w1 w8 := h7.grown hgr8 h7.size (fun k hk => (own_at hown7 k hk).1)
          have y8 : w8.cell? ⟨xr, 1, none⟩ = some (.slice (some ⟨b, 0, none⟩) N cM) := (h8.cell (p := ⟨xr, 1, none⟩) hxl1).trans m1
          have f8 : w8.frozen? ⟨xr, 1, none⟩ = false := (h8.frozen (p := ⟨xr, 1, none⟩) hxl1).trans hxz
          refine hK1 _ _ y8 ?_
          clear hK1 K1 hgr8 hl8 hown7 h7 y7
          try simp only [Act.put, List.setIfInBounds_toArray, List.set_cons_zero, List.set_cons_succ]
          refine wpAnyZ_one (j := 20) (o := { dst := some 95, op := _, type := _, pos := _, after := _, guard := _ }) rfl (by kernel_rfl) (by decide) ?_
          intro K1 hK1
          rw [if_pos (by rfl)]
          go_simp
          refine hK1 _ _ y8 ?_
          clear hK1 K1
          try simp only [Act.put, List.setIfInBounds_toArray, List.set_cons_zero, List.set_cons_succ]
          refine wpAnyZ_one (j := 21) (o := { dst := some 96, op := _, type := _, pos := _, after := _, guard := _ }) rfl (by kernel_rfl) (by decide) ?_
          intro K1 hK1
          rw [if_pos (by rfl)]
          go_simp
          refine hK1 _ _ y8 ?_
          clear hK1 K1
          try simp only [Act.put, List.setIfInBounds_toArray, List.set_cons_zero, List.set_cons_succ]
          refine wpAnyZ_last (o := { dst := none, op := _, type := _, pos := _, after := _, guard := _ }) rfl (by kernel_rfl) ?_
          intro K1 hK1
          rw [if_pos (by rfl)]
          go_simp
          refine hK1 _ _ ?_
          clear hK1 K1
          refine wpAny_done (by kernel_rfl) ?_ _
          have HEND := Lib.hid (HH.out.insert (k := k) hZ hbase (by rw [HN.out]; omega) HSET.out HB1.out h8 ⟨g1, cap1, rfl, HG1.out.2.2.2, HG1.out.1, HG1.out.2.1, HG1.out.2.2.1⟩ (by rw [HN.out]; exact HROW0.out.1) HROW0.out.2 (v' := .slice A8 k8 c8) (by rw [show M.length + 1 = k8 by rw [HN.out]; have := HK6.out; have := HK7.out; have := HK8.out; omega]; simpa using hown8))
          clear hown8 h8 y8 f8
          go_wp2
          go_ret
          exact ⟨rfl, HEND.out⟩
    · obtain rfl : k = N := by omega
      have hxz : w1.frozen? ⟨xr, 1, none⟩ = false := HH1.out.cells.2.2.1
      have hvl : vs.length = k * 2 := HROW.out.1
      have HSET := Lib.hid (setL_in (l := l) hbef.out (fun y hy => by have := (List.getElem?_eq_some_iff.1 hy).1; rw [HN.out] at this; omega) (by rw [HN.out]; omega))
      by_cases h0 : k = 0
      · skip
        subst h0
        have hM0 : M = [] := List.eq_nil_of_length_eq_zero HN.out
        obtain ⟨rfl, rfl⟩ : AM = none ∧ cM = 0 := by have e := HNIL.out hM0; simp only [Value.slice.injEq] at e; exact ⟨e.1, e.2.2⟩
        have x1 : w1.drew.cell? ⟨xr, 1, none⟩ = some (.slice none 0 0) := m1
        clear hM0
        obtain rfl : vs = [] := List.eq_nil_of_length_eq_zero (by omega)
        go_wp2_with fail
        refine wp_region_any (by rfl) ?_
        change wpAny _ _ _ _ _ _ _ w1.drew
        refine wpAny_of_Z (S := fun wz => wz.cell? ⟨xr, 1, none⟩ = some (.slice none 0 0)) (z := 22) _ _ _ _ ?_
        refine wpAnyZ_take (i := 0) (oi := { dst := some 75, op := _, type := _, pos := _, after := _, guard := _ }) (v := .pointer (some ⟨xr, 0, none⟩)) rfl (by decide) (by kernel_rfl) (by kernel_rfl) (by kernel_rfl) (by kernel_rfl) (fun _ _ _ h => h) (Or.inl ⟨by rfl, fun wz hS => ?_⟩) x1 ?_
        · go_simp
        try simp only [Act.put, List.setIfInBounds_toArray, List.set_cons_zero, List.set_cons_succ]
        refine wpAnyZ_take (i := 1) (oi := { dst := some 76, op := _, type := _, pos := _, after := _, guard := _ }) (v := .pointer (some ⟨xr, 0, none⟩)) rfl (by decide) (by kernel_rfl) (by kernel_rfl) (by kernel_rfl) (by kernel_rfl) (fun _ _ _ h => h) (Or.inl ⟨by rfl, fun wz hS => ?_⟩) x1 ?_
        · go_simp
        try simp only [Act.put, List.setIfInBounds_toArray, List.set_cons_zero, List.set_cons_succ]
        refine wpAnyZ_take (i := 2) (oi := { dst := some 77, op := _, type := _, pos := _, after := _, guard := _ }) (v := .pointer (some ⟨xr, 0, none⟩)) rfl (by decide) (by kernel_rfl) (by kernel_rfl) (by kernel_rfl) (by kernel_rfl) (fun _ _ _ h => h) (Or.inl ⟨by rfl, fun wz hS => ?_⟩) x1 ?_
        · go_simp
        try simp only [Act.put, List.setIfInBounds_toArray, List.set_cons_zero, List.set_cons_succ]
        refine wpAnyZ_take (i := 3) (oi := { dst := some 78, op := _, type := _, pos := _, after := _, guard := _ }) (v := .pointer (some ⟨xr, 1, none⟩)) rfl (by decide) (by kernel_rfl) (by kernel_rfl) (by kernel_rfl) (by kernel_rfl) (fun _ _ _ h => h) (Or.inl ⟨by rfl, fun wz hS => ?_⟩) x1 ?_
        · go_simp
        try simp only [Act.put, List.setIfInBounds_toArray, List.set_cons_zero, List.set_cons_succ]
        refine wpAnyZ_take (i := 4) (oi := { dst := some 79, op := _, type := _, pos := _, after := _, guard := _ }) (v := .slice none 0 0) rfl (by decide) (by kernel_rfl) (by kernel_rfl) (by kernel_rfl) (by kernel_rfl) (fun _ _ _ h => h) (Or.inl ⟨by rfl, fun wz hS => ?_⟩) x1 ?_
        · go_simp
        try simp only [Act.put, List.setIfInBounds_toArray, List.set_cons_zero, List.set_cons_succ]
        refine wpAnyZ_take (i := 5) (oi := { dst := some 80, op := _, type := _, pos := _, after := _, guard := _ }) (v := .int .i64 (0 : Int)) rfl (by decide) (by kernel_rfl) (by kernel_rfl) (by kernel_rfl) (by kernel_rfl) (fun _ _ _ h => h) (Or.inl ⟨by rfl, fun wz hS => ?_⟩) x1 ?_
        · go_simp
        try simp only [Act.put, List.setIfInBounds_toArray, List.set_cons_zero, List.set_cons_succ]
        refine wpAnyZ_take (i := 6) (oi := { dst := some 81, op := _, type := _, pos := _, after := _, guard := _ }) (v := .slice none 0 0) rfl (by decide) (by kernel_rfl) (by kernel_rfl) (by kernel_rfl) (by kernel_rfl) (fun _ _ _ h => h) (Or.inl ⟨by rfl, fun wz hS => ?_⟩) x1 ?_
        · go_simp
          all_goals omega
        try simp only [Act.put, List.setIfInBounds_toArray, List.set_cons_zero, List.set_cons_succ]
        refine wpAnyZ_take (i := 8) (oi := { dst := some 83, op := _, type := _, pos := _, after := _, guard := _ }) (v := .int .i64 i) rfl (by decide) (by kernel_rfl) (by kernel_rfl) (by kernel_rfl) (by kernel_rfl) (fun _ _ _ h => h) (Or.inl ⟨by rfl, fun wz hS => ?_⟩) x1 ?_
        · go_simp
        try simp only [Act.put, List.setIfInBounds_toArray, List.set_cons_zero, List.set_cons_succ]
        refine wpAnyZ_take (i := 9) (oi := { dst := some 84, op := _, type := _, pos := _, after := _, guard := _ }) (v := .slice (some ⟨g1, 0, none⟩) 240 cap1) rfl (by decide) (by kernel_rfl) (by kernel_rfl) (by kernel_rfl) (by kernel_rfl) (fun _ _ _ h => h) (Or.inl ⟨by rfl, fun wz hS => ?_⟩) x1 ?_
        · go_simp
        try simp only [Act.put, List.setIfInBounds_toArray, List.set_cons_zero, List.set_cons_succ]
        refine wpAnyZ_take (i := 10) (oi := { dst := some 85, op := _, type := _, pos := _, after := _, guard := _ }) (v := .agg #[.int .i64 i, .slice (some ⟨g1, 0, none⟩) 240 cap1]) rfl (by decide) (by kernel_rfl) (by kernel_rfl) (by kernel_rfl) (by kernel_rfl) (fun _ _ _ h => h) (Or.inl ⟨by rfl, fun wz hS => ?_⟩) x1 ?_
        · go_simp
        try simp only [Act.put, List.setIfInBounds_toArray, List.set_cons_zero, List.set_cons_succ]
        refine wpAnyZ_take (i := 13) (oi := { dst := some 88, op := _, type := _, pos := _, after := _, guard := _ }) (v := .pointer (some ⟨xr, 0, none⟩)) rfl (by decide) (by kernel_rfl) (by kernel_rfl) (by kernel_rfl) (by kernel_rfl) (fun _ _ _ h => h) (Or.inl ⟨by rfl, fun wz hS => ?_⟩) x1 ?_
        · go_simp
        try simp only [Act.put, List.setIfInBounds_toArray, List.set_cons_zero, List.set_cons_succ]
        refine wpAnyZ_take (i := 14) (oi := { dst := some 89, op := _, type := _, pos := _, after := _, guard := _ }) (v := .pointer (some ⟨xr, 0, none⟩)) rfl (by decide) (by kernel_rfl) (by kernel_rfl) (by kernel_rfl) (by kernel_rfl) (fun _ _ _ h => h) (Or.inl ⟨by rfl, fun wz hS => ?_⟩) x1 ?_
        · go_simp
        try simp only [Act.put, List.setIfInBounds_toArray, List.set_cons_zero, List.set_cons_succ]
        refine wpAnyZ_take (i := 15) (oi := { dst := some 90, op := _, type := _, pos := _, after := _, guard := _ }) (v := .pointer (some ⟨xr, 1, none⟩)) rfl (by decide) (by kernel_rfl) (by kernel_rfl) (by kernel_rfl) (by kernel_rfl) (fun _ _ _ h => h) (Or.inl ⟨by rfl, fun wz hS => ?_⟩) x1 ?_
        · go_simp
        try simp only [Act.put, List.setIfInBounds_toArray, List.set_cons_zero, List.set_cons_succ]
        refine wpAnyZ_take (i := 16) (oi := { dst := some 91, op := _, type := _, pos := _, after := _, guard := _ }) (v := .slice none 0 0) rfl (by decide) (by kernel_rfl) (by kernel_rfl) (by kernel_rfl) (by kernel_rfl) (fun _ _ _ h => h) (Or.inl ⟨by rfl, fun wz hS => ?_⟩) x1 ?_
        · go_simp
        try simp only [Act.put, List.setIfInBounds_toArray, List.set_cons_zero, List.set_cons_succ]
        refine wpAnyZ_take (i := 17) (oi := { dst := some 92, op := _, type := _, pos := _, after := _, guard := _ }) (v := .int .i64 (0 : Int)) rfl (by decide) (by kernel_rfl) (by kernel_rfl) (by kernel_rfl) (by kernel_rfl) (fun _ _ _ h => h) (Or.inl ⟨by rfl, fun wz hS => ?_⟩) x1 ?_
        · go_simp
        try simp only [Act.put, List.setIfInBounds_toArray, List.set_cons_zero, List.set_cons_succ]
        refine wpAnyZ_take (i := 18) (oi := { dst := some 93, op := _, type := _, pos := _, after := _, guard := _ }) (v := .slice none 0 0) rfl (by decide) (by kernel_rfl) (by kernel_rfl) (by kernel_rfl) (by kernel_rfl) (fun _ _ _ h => h) (Or.inl ⟨by rfl, fun wz hS => ?_⟩) x1 ?_
        · go_simp
          all_goals omega
        try simp only [Act.put, List.setIfInBounds_toArray, List.set_cons_zero, List.set_cons_succ]
        refine wpAnyZ_two (j := 7) (k := 11) (o := { dst := some 82, op := _, type := _, pos := _, after := _, guard := none }) (o' := { dst := some 86, op := _, type := _, pos := _, after := _, guard := none }) rfl rfl (by kernel_rfl) (by decide) (by decide) ?_ ?_
        · intro K1 hK1
          have o0 : w1.drew.ownsRow w1.heap.size 101 2 (.slice none 0 0) 0 [] := ⟨rfl, .inl ⟨rfl, rfl⟩⟩
          with_reducible refine step_append_imgs ?_ (.const (.slice none 0 0)) (.tmp 81) ?_ w1.heap.size (.slice none 0 0) 0 [] ?_ none 0 0 ?_ o0 [] rfl (fun j u hj => by simp at hj) (fun u hu => absurd hu List.not_mem_nil) (by omega) (Nat.le_refl _) ?_
          · rfl
          · rfl
          · rfl
          · rfl
          intro A6 c6 w6 hown6 hgr6 hl6
          generalize hk6 : 0 + 0 = k6 at hown6 hl6 ⊢
          have HK6 := Lib.hid hk6
          clear hk6
          have hb6 : Below w1.heap.size w1 w6 := ((Below.refl w1.heap.size w1).drew).grown hgr6 (Nat.le_refl _) (fun k hk => by cases hk)
          have y6 : w6.cell? ⟨xr, 1, none⟩ = some (.slice none 0 0) := (hb6.cell (p := ⟨xr, 1, none⟩) hxl1).trans m1
          refine hK1 _ _ y6 ?_
          clear hK1 K1
          try simp only [Act.put, List.setIfInBounds_toArray, List.set_cons_zero, List.set_cons_succ]
          refine wpAnyZ_one (j := 11) (o := { dst := some 86, op := _, type := _, pos := _, after := _, guard := none }) rfl (by kernel_rfl) (by decide) ?_
          intro K1 hK1
          rw [if_pos (by rfl)]
          go_simp
          have hW : Below w1.heap.size w1 (w6.alloc (.cells #[.int .i64 i, .slice (some ⟨g1, 0, none⟩) 240 cap1] 101)) := hb6.alloc hb6.size _
          have yW : (w6.alloc (.cells #[.int .i64 i, .slice (some ⟨g1, 0, none⟩) 240 cap1] 101)).cell? ⟨xr, 1, none⟩ = some (.slice none 0 0) := (hW.cell (p := ⟨xr, 1, none⟩) hxl1).trans m1
          have hlit : (w6.alloc (.cells #[.int .i64 i, .slice (some ⟨g1, 0, none⟩) 240 cap1] 101)).heap[w6.heap.size]? = some (.cells #[.int .i64 i, .slice (some ⟨g1, 0, none⟩) 240 cap1] 101 (0, 0)) := heap_alloc_new _ _
          have hgl := hb6.size
          have hownW := hown6.alloc (.cells #[.int .i64 i, .slice (some ⟨g1, 0, none⟩) 240 cap1] 101)
          refine hK1 _ _ yW ?_
          clear hK1 K1 hown6 hgr6 hl6 hb6 y6
          generalize w6.alloc (.cells #[.int .i64 i, .slice (some ⟨g1, 0, none⟩) 240 cap1] 101) = W at hW yW hlit hownW ⊢
          generalize w6.heap.size = gl at hlit hgl ⊢
          try simp only [Act.put, List.setIfInBounds_toArray, List.set_cons_zero, List.set_cons_succ]
          have hone2 : ∀ u ∈ [Value.int .i64 i, .slice (some ⟨g1, 0, none⟩) 240 cap1], u.oneCell' = true := fun u hu => by simp at hu; rcases hu with rfl | rfl <;> rfl
          refine wpAnyZ_one (j := 12) (o := { dst := some 87, op := _, type := _, pos := _, after := _, guard := none }) rfl (by kernel_rfl) (by decide) ?_
          intro K1 hK1
          with_reducible refine step_append_imgs ?_ (.tmp 82) (.tmp 86) ?_ w1.heap.size (.slice A6 k6 c6) k6 _ ?_ (some ⟨gl, 0, none⟩) 1 1 ?_ hownW [.int .i64 i, .slice (some ⟨g1, 0, none⟩) 240 cap1] rfl (fun j u hj => ⟨_, rfl, World.news_of_block hlit j u hj⟩) hone2 (by have := HK6.out; omega) hW.size ?_
          · rfl
          · rfl
          · rfl
          · rfl
          intro A7 c7 w7 hown7 hgr7 hl7
          generalize hk7 : k6 + 1 = k7 at hown7 hl7 ⊢
          have HK7 := Lib.hid hk7
          clear hk7
          have h7 : Below w1.heap.size w1 w7 := hW.grown hgr7 hW.size (fun k hk => (own_at hownW k hk).1)
          have y7 : w7.cell? ⟨xr, 1, none⟩ = some (.slice none 0 0) := (h7.cell (p := ⟨xr, 1, none⟩) hxl1).trans m1
          refine hK1 _ _ y7 ?_
          clear hK1 K1 hgr7 hl7 hlit hownW hW yW
          try simp only [Act.put, List.setIfInBounds_toArray, List.set_cons_zero, List.set_cons_succ]
          refine wpAnyZ_one (j := 19) (o := { dst := some 94, op := _, type := _, pos := _, after := _, guard := none }) rfl (by kernel_rfl) (by decide) ?_
          intro K1 hK1
          with_reducible refine step_append_imgs ?_ (.tmp 87) (.tmp 93) ?_ w1.heap.size (.slice A7 k7 c7) k7 _ ?_ none 0 0 ?_ hown7 [] rfl (fun j u hj => by rw [List.getElem?_eq_none (by simp)] at hj; simp at hj) (fun u hu => absurd hu List.not_mem_nil) (by have := HK6.out; have := HK7.out; omega) h7.size ?_
          · rfl
          · rfl
          · rfl
          · rfl
          intro A8 c8 w8 hown8 hgr8 hl8
          generalize hk8 : k7 + 0 = k8 at hown8 hl8 ⊢
          have HK8 := Lib.hid hk8
          clear hk8
          have h8 : Below w1.heap.size w1 w8 := h7.grown hgr8 h7.size (fun k hk => (own_at hown7 k hk).1)
          have y8 : w8.cell? ⟨xr, 1, none⟩ = some (.slice none 0 0) := (h8.cell (p := ⟨xr, 1, none⟩) hxl1).trans m1
          have f8 : w8.frozen? ⟨xr, 1, none⟩ = false := (h8.frozen (p := ⟨xr, 1, none⟩) hxl1).trans hxz
          refine hK1 _ _ y8 ?_
          clear hK1 K1 hgr8 hl8 hown7 h7 y7
          try simp only [Act.put, List.setIfInBounds_toArray, List.set_cons_zero, List.set_cons_succ]
          refine wpAnyZ_one (j := 20) (o := { dst := some 95, op := _, type := _, pos := _, after := _, guard := _ }) rfl (by kernel_rfl) (by decide) ?_
          intro K1 hK1
          rw [if_pos (by rfl)]
          go_simp
          refine hK1 _ _ y8 ?_
          clear hK1 K1
          try simp only [Act.put, List.setIfInBounds_toArray, List.set_cons_zero, List.set_cons_succ]
          refine wpAnyZ_one (j := 21) (o := { dst := some 96, op := _, type := _, pos := _, after := _, guard := _ }) rfl (by kernel_rfl) (by decide) ?_
          intro K1 hK1
          rw [if_pos (by rfl)]
          go_simp
          refine hK1 _ _ y8 ?_
          clear hK1 K1
          try simp only [Act.put, List.setIfInBounds_toArray, List.set_cons_zero, List.set_cons_succ]
          refine wpAnyZ_last (o := { dst := none, op := _, type := _, pos := _, after := _, guard := _ }) rfl (by kernel_rfl) ?_
          intro K1 hK1
          rw [if_pos (by rfl)]
          go_simp
          refine hK1 _ _ ?_
          clear hK1 K1
          refine wpAny_done (by kernel_rfl) ?_ _
          have HEND := Lib.hid (HH.out.insert (k := 0) hZ hbase (by rw [HN.out]; omega) HSET.out HB1.out h8 ⟨g1, cap1, rfl, HG1.out.2.2.2, HG1.out.1, HG1.out.2.1, HG1.out.2.2.1⟩ (by rw [HN.out]; exact HROW0.out.1) HROW0.out.2 (v' := .slice A8 k8 c8) (by rw [show M.length + 1 = k8 by rw [HN.out]; have := HK6.out; have := HK7.out; have := HK8.out; omega]; simpa using hown8))
          clear hown8 h8 y8 f8
          go_wp2
          go_ret
          exact ⟨rfl, HEND.out⟩
        · intro K1 hK1
          rw [if_pos (by rfl)]
          go_simp
          have hW0 : Below w1.heap.size w1 (w1.alloc (.cells #[.int .i64 i, .slice (some ⟨g1, 0, none⟩) 240 cap1] 101)).drew := ((Below.refl w1.heap.size w1).alloc (Nat.le_refl _) _).drew
          have yW0 : (w1.alloc (.cells #[.int .i64 i, .slice (some ⟨g1, 0, none⟩) 240 cap1] 101)).drew.cell? ⟨xr, 1, none⟩ = some (.slice none 0 0) := (hW0.cell (p := ⟨xr, 1, none⟩) hxl1).trans m1
          have hlit0 : (w1.alloc (.cells #[.int .i64 i, .slice (some ⟨g1, 0, none⟩) 240 cap1] 101)).drew.heap[w1.heap.size]? = some (.cells #[.int .i64 i, .slice (some ⟨g1, 0, none⟩) 240 cap1] 101 (0, 0)) := heap_alloc_new w1 _
          have hsW0 : (w1.alloc (.cells #[.int .i64 i, .slice (some ⟨g1, 0, none⟩) 240 cap1] 101)).drew.heap.size = w1.heap.size + 1 := by show (w1.alloc _).heap.size = _; simp
          refine hK1 _ _ yW0 ?_
          clear hK1 K1
          try simp only [Act.put, List.setIfInBounds_toArray, List.set_cons_zero, List.set_cons_succ]
          refine wpAnyZ_one (j := 7) (o := { dst := some 82, op := _, type := _, pos := _, after := _, guard := none }) rfl (by kernel_rfl) (by decide) ?_
          intro K1 hK1
          have o0 : (w1.alloc (.cells #[.int .i64 i, .slice (some ⟨g1, 0, none⟩) 240 cap1] 101)).drew.ownsRow w1.heap.size 101 2 (.slice none 0 0) 0 [] := ⟨rfl, .inl ⟨rfl, rfl⟩⟩
          with_reducible refine step_append_imgs ?_ (.const (.slice none 0 0)) (.tmp 81) ?_ w1.heap.size (.slice none 0 0) 0 [] ?_ none 0 0 ?_ o0 [] rfl (fun j u hj => by simp at hj) (fun u hu => absurd hu List.not_mem_nil) (by omega) (by simp) ?_
          · rfl
          · rfl
          · rfl
          · rfl
          intro A6 c6 w6 hown6 hgr6 hl6
          generalize hk6 : 0 + 0 = k6 at hown6 hl6 ⊢
          have HK6 := Lib.hid hk6
          clear hk6
          have hW : Below w1.heap.size w1 w6 := hW0.grown hgr6 (by rw [hsW0]; omega) (fun k hk => by cases hk)
          have yW : w6.cell? ⟨xr, 1, none⟩ = some (.slice none 0 0) := (hW.cell (p := ⟨xr, 1, none⟩) hxl1).trans m1
          have hlit : w6.heap[w1.heap.size]? = some (.cells #[.int .i64 i, .slice (some ⟨g1, 0, none⟩) 240 cap1] 101 (0, 0)) := (hgr6.block _ (by rw [hsW0]; omega) (fun e => by cases e)).trans hlit0
          have hgl : w1.heap.size ≤ w1.heap.size := Nat.le_refl _
          have hownW := hown6
          refine hK1 _ _ yW ?_
          rw [Array.setIfInBounds_comm _ _ (show (11 : Nat) ≠ 7 by decide)]
          clear hK1 K1 hown6 hgr6 hl6 hW0 yW0 hlit0 hsW0
          generalize w6 = W at hW yW hlit hownW ⊢
          generalize hgg : w1.heap.size = gl at hlit hgl
          try simp only [Act.put, List.setIfInBounds_toArray, List.set_cons_zero, List.set_cons_succ]
          have hone2 : ∀ u ∈ [Value.int .i64 i, .slice (some ⟨g1, 0, none⟩) 240 cap1], u.oneCell' = true := fun u hu => by simp at hu; rcases hu with rfl | rfl <;> rfl
          refine wpAnyZ_one (j := 12) (o := { dst := some 87, op := _, type := _, pos := _, after := _, guard := none }) rfl (by kernel_rfl) (by decide) ?_
          intro K1 hK1
          with_reducible refine step_append_imgs ?_ (.tmp 82) (.tmp 86) ?_ w1.heap.size (.slice A6 k6 c6) k6 _ ?_ (some ⟨gl, 0, none⟩) 1 1 ?_ hownW [.int .i64 i, .slice (some ⟨g1, 0, none⟩) 240 cap1] rfl (fun j u hj => ⟨_, rfl, World.news_of_block hlit j u hj⟩) hone2 (by have := HK6.out; omega) hW.size ?_
          · rfl
          · rfl
          · rfl
          · rfl
          intro A7 c7 w7 hown7 hgr7 hl7
          generalize hk7 : k6 + 1 = k7 at hown7 hl7 ⊢
          have HK7 := Lib.hid hk7
          clear hk7
          have h7 : Below w1.heap.size w1 w7 := hW.grown hgr7 hW.size (fun k hk => (own_at hownW k hk).1)
          have y7 : w7.cell? ⟨xr, 1, none⟩ = some (.slice none 0 0) := (h7.cell (p := ⟨xr, 1, none⟩) hxl1).trans m1
          refine hK1 _ _ y7 ?_
          clear hK1 K1 hgr7 hl7 hlit hownW hW yW
          try simp only [Act.put, List.setIfInBounds_toArray, List.set_cons_zero, List.set_cons_succ]
          refine wpAnyZ_one (j := 19) (o := { dst := some 94, op := _, type := _, pos := _, after := _, guard := none }) rfl (by kernel_rfl) (by decide) ?_
          intro K1 hK1
          with_reducible refine step_append_imgs ?_ (.tmp 87) (.tmp 93) ?_ w1.heap.size (.slice A7 k7 c7) k7 _ ?_ none 0 0 ?_ hown7 [] rfl (fun j u hj => by rw [List.getElem?_eq_none (by simp)] at hj; simp at hj) (fun u hu => absurd hu List.not_mem_nil) (by have := HK6.out; have := HK7.out; omega) h7.size ?_
          · rfl
          · rfl
          · rfl
          · rfl
          intro A8 c8 w8 hown8 hgr8 hl8
          generalize hk8 : k7 + 0 = k8 at hown8 hl8 ⊢
          have HK8 := Lib.hid hk8
          clear hk8
          have h8 : Below w1.heap.size w1 w8 := h7.grown hgr8 h7.size (fun k hk => (own_at hown7 k hk).1)
          have y8 : w8.cell? ⟨xr, 1, none⟩ = some (.slice none 0 0) := (h8.cell (p := ⟨xr, 1, none⟩) hxl1).trans m1
          have f8 : w8.frozen? ⟨xr, 1, none⟩ = false := (h8.frozen (p := ⟨xr, 1, none⟩) hxl1).trans hxz
          refine hK1 _ _ y8 ?_
          clear hK1 K1 hgr8 hl8 hown7 h7 y7
          try simp only [Act.put, List.setIfInBounds_toArray, List.set_cons_zero, List.set_cons_succ]
          refine wpAnyZ_one (j := 20) (o := { dst := some 95, op := _, type := _, pos := _, after := _, guard := _ }) rfl (by kernel_rfl) (by decide) ?_
          intro K1 hK1
          rw [if_pos (by rfl)]
          go_simp
          refine hK1 _ _ y8 ?_
          clear hK1 K1
          try simp only [Act.put, List.setIfInBounds_toArray, List.set_cons_zero, List.set_cons_succ]
          refine wpAnyZ_one (j := 21) (o := { dst := some 96, op := _, type := _, pos := _, after := _, guard := _ }) rfl (by kernel_rfl) (by decide) ?_
          intro K1 hK1
          rw [if_pos (by rfl)]
          go_simp
          refine hK1 _ _ y8 ?_
          clear hK1 K1
          try simp only [Act.put, List.setIfInBounds_toArray, List.set_cons_zero, List.set_cons_succ]
          refine wpAnyZ_last (o := { dst := none, op := _, type := _, pos := _, after := _, guard := _ }) rfl (by kernel_rfl) ?_
          intro K1 hK1
          rw [if_pos (by rfl)]
          go_simp
          refine hK1 _ _ ?_
          clear hK1 K1
          refine wpAny_done (by kernel_rfl) ?_ _
          have HEND := Lib.hid (HH.out.insert (k := 0) hZ hbase (by rw [HN.out]; omega) HSET.out HB1.out h8 ⟨g1, cap1, rfl, HG1.out.2.2.2, HG1.out.1, HG1.out.2.1, HG1.out.2.2.1⟩ (by rw [HN.out]; exact HROW0.out.1) HROW0.out.2 (v' := .slice A8 k8 c8) (by rw [show M.length + 1 = k8 by rw [HN.out]; have := HK6.out; have := HK7.out; have := HK8.out; omega]; simpa using hown8))
          clear hown8 h8 y8 f8
          go_wp2
          go_ret
          exact ⟨rfl, HEND.out⟩
      · obtain ⟨b, rfl, _, hbl, hat⟩ := HI.out.2 (by omega)
        have HCV0 := Lib.hid (fun j u (hj : vs[j]? = some u) => World.ownsRow.cells (g := b) HROW.out rfl j u hj)
        have HCV := Lib.hid (show ∀ j u, vs[j]? = some u → w1.drew.cell? ((⟨b, 0, none⟩ : Addr).add j) = some u from fun j u hj => HCV0.out j u hj)
        have HBL := Lib.hid (show ∀ j, ((⟨b, 0, none⟩ : Addr).add j).block < w1.heap.size from fun j => by rw [img_add]; exact (own_at HROW.out b rfl).2)
        clear hat
        have hk0 : (0 : Int) ≤ (k : Int) := by omega
        have hkn : (k : Int) ≤ (k : Int) := by omega
        by_cases hc : cM = k
        · subst hc
          have x1 : w1.drew.cell? ⟨xr, 1, none⟩ = some (.slice (some ⟨b, 0, none⟩) cM cM) := m1
          go_wp2_with fail
          refine wp_region_any (by rfl) ?_
          change wpAny _ _ _ _ _ _ _ w1.drew
          refine wpAny_of_Z (S := fun wz => wz.cell? ⟨xr, 1, none⟩ = some (.slice (some ⟨b, 0, none⟩) cM cM)) (z := 22) _ _ _ _ ?_
          refine wpAnyZ_take (i := 0) (oi := { dst := some 75, op := _, type := _, pos := _, after := _, guard := _ }) (v := .pointer (some ⟨xr, 0, none⟩)) rfl (by decide) (by kernel_rfl) (by kernel_rfl) (by kernel_rfl) (by kernel_rfl) (fun _ _ _ h => h) (Or.inl ⟨by rfl, fun wz hS => ?_⟩) x1 ?_
          · go_simp
          try simp only [Act.put, List.setIfInBounds_toArray, List.set_cons_zero, List.set_cons_succ]
          refine wpAnyZ_take (i := 1) (oi := { dst := some 76, op := _, type := _, pos := _, after := _, guard := _ }) (v := .pointer (some ⟨xr, 0, none⟩)) rfl (by decide) (by kernel_rfl) (by kernel_rfl) (by kernel_rfl) (by kernel_rfl) (fun _ _ _ h => h) (Or.inl ⟨by rfl, fun wz hS => ?_⟩) x1 ?_
          · go_simp
          try simp only [Act.put, List.setIfInBounds_toArray, List.set_cons_zero, List.set_cons_succ]
          refine wpAnyZ_take (i := 2) (oi := { dst := some 77, op := _, type := _, pos := _, after := _, guard := _ }) (v := .pointer (some ⟨xr, 0, none⟩)) rfl (by decide) (by kernel_rfl) (by kernel_rfl) (by kernel_rfl) (by kernel_rfl) (fun _ _ _ h => h) (Or.inl ⟨by rfl, fun wz hS => ?_⟩) x1 ?_
          · go_simp
          try simp only [Act.put, List.setIfInBounds_toArray, List.set_cons_zero, List.set_cons_succ]
          refine wpAnyZ_take (i := 3) (oi := { dst := some 78, op := _, type := _, pos := _, after := _, guard := _ }) (v := .pointer (some ⟨xr, 1, none⟩)) rfl (by decide) (by kernel_rfl) (by kernel_rfl) (by kernel_rfl) (by kernel_rfl) (fun _ _ _ h => h) (Or.inl ⟨by rfl, fun wz hS => ?_⟩) x1 ?_
          · go_simp
          try simp only [Act.put, List.setIfInBounds_toArray, List.set_cons_zero, List.set_cons_succ]
          refine wpAnyZ_take (i := 4) (oi := { dst := some 79, op := _, type := _, pos := _, after := _, guard := _ }) (v := .slice (some ⟨b, 0, none⟩) cM cM) rfl (by decide) (by kernel_rfl) (by kernel_rfl) (by kernel_rfl) (by kernel_rfl) (fun _ _ _ h => h) (Or.inl ⟨by rfl, fun wz hS => ?_⟩) x1 ?_
          · go_simp
          try simp only [Act.put, List.setIfInBounds_toArray, List.set_cons_zero, List.set_cons_succ]
          refine wpAnyZ_take (i := 5) (oi := { dst := some 80, op := _, type := _, pos := _, after := _, guard := _ }) (v := .int .i64 ((cM : Nat) : Int)) rfl (by decide) (by kernel_rfl) (by kernel_rfl) (by kernel_rfl) (by kernel_rfl) (fun _ _ _ h => h) (Or.inl ⟨by rfl, fun wz hS => ?_⟩) x1 ?_
          · go_simp
          try simp only [Act.put, List.setIfInBounds_toArray, List.set_cons_zero, List.set_cons_succ]
          refine wpAnyZ_take (i := 6) (oi := { dst := some 81, op := _, type := _, pos := _, after := _, guard := _ }) (v := .slice (some ⟨b, 0, none⟩) cM cM) rfl (by decide) (by kernel_rfl) (by kernel_rfl) (by kernel_rfl) (by kernel_rfl) (fun _ _ _ h => h) (Or.inl ⟨by rfl, fun wz hS => ?_⟩) x1 ?_
          · go_simp
            all_goals omega
          try simp only [Act.put, List.setIfInBounds_toArray, List.set_cons_zero, List.set_cons_succ]
          refine wpAnyZ_take (i := 8) (oi := { dst := some 83, op := _, type := _, pos := _, after := _, guard := _ }) (v := .int .i64 i) rfl (by decide) (by kernel_rfl) (by kernel_rfl) (by kernel_rfl) (by kernel_rfl) (fun _ _ _ h => h) (Or.inl ⟨by rfl, fun wz hS => ?_⟩) x1 ?_
          · go_simp
          try simp only [Act.put, List.setIfInBounds_toArray, List.set_cons_zero, List.set_cons_succ]
          refine wpAnyZ_take (i := 9) (oi := { dst := some 84, op := _, type := _, pos := _, after := _, guard := _ }) (v := .slice (some ⟨g1, 0, none⟩) 240 cap1) rfl (by decide) (by kernel_rfl) (by kernel_rfl) (by kernel_rfl) (by kernel_rfl) (fun _ _ _ h => h) (Or.inl ⟨by rfl, fun wz hS => ?_⟩) x1 ?_
          · go_simp
          try simp only [Act.put, List.setIfInBounds_toArray, List.set_cons_zero, List.set_cons_succ]
          refine wpAnyZ_take (i := 10) (oi := { dst := some 85, op := _, type := _, pos := _, after := _, guard := _ }) (v := .agg #[.int .i64 i, .slice (some ⟨g1, 0, none⟩) 240 cap1]) rfl (by decide) (by kernel_rfl) (by kernel_rfl) (by kernel_rfl) (by kernel_rfl) (fun _ _ _ h => h) (Or.inl ⟨by rfl, fun wz hS => ?_⟩) x1 ?_
          · go_simp
          try simp only [Act.put, List.setIfInBounds_toArray, List.set_cons_zero, List.set_cons_succ]
          refine wpAnyZ_take (i := 13) (oi := { dst := some 88, op := _, type := _, pos := _, after := _, guard := _ }) (v := .pointer (some ⟨xr, 0, none⟩)) rfl (by decide) (by kernel_rfl) (by kernel_rfl) (by kernel_rfl) (by kernel_rfl) (fun _ _ _ h => h) (Or.inl ⟨by rfl, fun wz hS => ?_⟩) x1 ?_
          · go_simp
          try simp only [Act.put, List.setIfInBounds_toArray, List.set_cons_zero, List.set_cons_succ]
          refine wpAnyZ_take (i := 14) (oi := { dst := some 89, op := _, type := _, pos := _, after := _, guard := _ }) (v := .pointer (some ⟨xr, 0, none⟩)) rfl (by decide) (by kernel_rfl) (by kernel_rfl) (by kernel_rfl) (by kernel_rfl) (fun _ _ _ h => h) (Or.inl ⟨by rfl, fun wz hS => ?_⟩) x1 ?_
          · go_simp
          try simp only [Act.put, List.setIfInBounds_toArray, List.set_cons_zero, List.set_cons_succ]
          refine wpAnyZ_take (i := 15) (oi := { dst := some 90, op := _, type := _, pos := _, after := _, guard := _ }) (v := .pointer (some ⟨xr, 1, none⟩)) rfl (by decide) (by kernel_rfl) (by kernel_rfl) (by kernel_rfl) (by kernel_rfl) (fun _ _ _ h => h) (Or.inl ⟨by rfl, fun wz hS => ?_⟩) x1 ?_
          · go_simp
          try simp only [Act.put, List.setIfInBounds_toArray, List.set_cons_zero, List.set_cons_succ]
          refine wpAnyZ_take (i := 16) (oi := { dst := some 91, op := _, type := _, pos := _, after := _, guard := _ }) (v := .slice (some ⟨b, 0, none⟩) cM cM) rfl (by decide) (by kernel_rfl) (by kernel_rfl) (by kernel_rfl) (by kernel_rfl) (fun _ _ _ h => h) (Or.inl ⟨by rfl, fun wz hS => ?_⟩) x1 ?_
          · go_simp
          try simp only [Act.put, List.setIfInBounds_toArray, List.set_cons_zero, List.set_cons_succ]
          refine wpAnyZ_take (i := 17) (oi := { dst := some 92, op := _, type := _, pos := _, after := _, guard := _ }) (v := .int .i64 ((cM : Nat) : Int)) rfl (by decide) (by kernel_rfl) (by kernel_rfl) (by kernel_rfl) (by kernel_rfl) (fun _ _ _ h => h) (Or.inl ⟨by rfl, fun wz hS => ?_⟩) x1 ?_
          · go_simp
          try simp only [Act.put, List.setIfInBounds_toArray, List.set_cons_zero, List.set_cons_succ]
          refine wpAnyZ_take (i := 18) (oi := { dst := some 93, op := _, type := _, pos := _, after := _, guard := _ }) (v := .slice (some ⟨b, 0, none⟩) 0 0) rfl (by decide) (by kernel_rfl) (by kernel_rfl) (by kernel_rfl) (by kernel_rfl) (fun _ _ _ h => h) (Or.inl ⟨by rfl, fun wz hS => ?_⟩) x1 ?_
          · go_simp
            all_goals omega
          try simp only [Act.put, List.setIfInBounds_toArray, List.set_cons_zero, List.set_cons_succ]
          refine wpAnyZ_two (j := 7) (k := 11) (o := { dst := some 82, op := _, type := _, pos := _, after := _, guard := none }) (o' := { dst := some 86, op := _, type := _, pos := _, after := _, guard := none }) rfl rfl (by kernel_rfl) (by decide) (by decide) ?_ ?_
          · intro K1 hK1
            have o0 : w1.drew.ownsRow w1.heap.size 101 2 (.slice none 0 0) 0 [] := ⟨rfl, .inl ⟨rfl, rfl⟩⟩
            with_reducible refine step_append_imgs ?_ (.const (.slice none 0 0)) (.tmp 81) ?_ w1.heap.size (.slice none 0 0) 0 [] ?_ (some ⟨b, 0, none⟩) cM cM ?_ o0 (vs.take (cM * 2)) (by rw [List.length_take]; omega) (fun j u hj => ⟨_, rfl, HCV.out j u (by rw [List.getElem?_take] at hj; split at hj; exact hj; cases hj)⟩) (fun u hu => HONE.out u (List.mem_of_mem_take hu)) (by omega) (Nat.le_refl _) ?_
            · rfl
            · rfl
            · rfl
            · rfl
            intro A6 c6 w6 hown6 hgr6 hl6
            generalize hk6 : 0 + cM = k6 at hown6 hl6 ⊢
            have HK6 := Lib.hid hk6
            clear hk6
            have hb6 : Below w1.heap.size w1 w6 := ((Below.refl w1.heap.size w1).drew).grown hgr6 (Nat.le_refl _) (fun k hk => by cases hk)
            have y6 : w6.cell? ⟨xr, 1, none⟩ = some (.slice (some ⟨b, 0, none⟩) cM cM) := (hb6.cell (p := ⟨xr, 1, none⟩) hxl1).trans m1
            refine hK1 _ _ y6 ?_
            clear hK1 K1
            try simp only [Act.put, List.setIfInBounds_toArray, List.set_cons_zero, List.set_cons_succ]
            refine wpAnyZ_one (j := 11) (o := { dst := some 86, op := _, type := _, pos := _, after := _, guard := none }) rfl (by kernel_rfl) (by decide) ?_
            intro K1 hK1
            rw [if_pos (by rfl)]
            go_simp
            have hW : Below w1.heap.size w1 (w6.alloc (.cells #[.int .i64 i, .slice (some ⟨g1, 0, none⟩) 240 cap1] 101)) := hb6.alloc hb6.size _
            have yW : (w6.alloc (.cells #[.int .i64 i, .slice (some ⟨g1, 0, none⟩) 240 cap1] 101)).cell? ⟨xr, 1, none⟩ = some (.slice (some ⟨b, 0, none⟩) cM cM) := (hW.cell (p := ⟨xr, 1, none⟩) hxl1).trans m1
            have hlit : (w6.alloc (.cells #[.int .i64 i, .slice (some ⟨g1, 0, none⟩) 240 cap1] 101)).heap[w6.heap.size]? = some (.cells #[.int .i64 i, .slice (some ⟨g1, 0, none⟩) 240 cap1] 101 (0, 0)) := heap_alloc_new _ _
            have hgl := hb6.size
            have hownW := hown6.alloc (.cells #[.int .i64 i, .slice (some ⟨g1, 0, none⟩) 240 cap1] 101)
            refine hK1 _ _ yW ?_
            clear hK1 K1 hown6 hgr6 hl6 hb6 y6
            generalize w6.alloc (.cells #[.int .i64 i, .slice (some ⟨g1, 0, none⟩) 240 cap1] 101) = W at hW yW hlit hownW ⊢
            generalize w6.heap.size = gl at hlit hgl ⊢
            try simp only [Act.put, List.setIfInBounds_toArray, List.set_cons_zero, List.set_cons_succ]
            have hone2 : ∀ u ∈ [Value.int .i64 i, .slice (some ⟨g1, 0, none⟩) 240 cap1], u.oneCell' = true := fun u hu => by simp at hu; rcases hu with rfl | rfl <;> rfl
            refine wpAnyZ_one (j := 12) (o := { dst := some 87, op := _, type := _, pos := _, after := _, guard := none }) rfl (by kernel_rfl) (by decide) ?_
            intro K1 hK1
            with_reducible refine step_append_imgs ?_ (.tmp 82) (.tmp 86) ?_ w1.heap.size (.slice A6 k6 c6) k6 _ ?_ (some ⟨gl, 0, none⟩) 1 1 ?_ hownW [.int .i64 i, .slice (some ⟨g1, 0, none⟩) 240 cap1] rfl (fun j u hj => ⟨_, rfl, World.news_of_block hlit j u hj⟩) hone2 (by have := HK6.out; omega) hW.size ?_
            · rfl
            · rfl
            · rfl
            · rfl
            intro A7 c7 w7 hown7 hgr7 hl7
            generalize hk7 : k6 + 1 = k7 at hown7 hl7 ⊢
            have HK7 := Lib.hid hk7
            clear hk7
            have h7 : Below w1.heap.size w1 w7 := hW.grown hgr7 hW.size (fun k hk => (own_at hownW k hk).1)
            have y7 : w7.cell? ⟨xr, 1, none⟩ = some (.slice (some ⟨b, 0, none⟩) cM cM) := (h7.cell (p := ⟨xr, 1, none⟩) hxl1).trans m1
            refine hK1 _ _ y7 ?_
            clear hK1 K1 hgr7 hl7 hlit hownW hW yW
            try simp only [Act.put, List.setIfInBounds_toArray, List.set_cons_zero, List.set_cons_succ]
            have HC7 := Lib.hid (fun j u (hj : vs[j]? = some u) => (h7.cell (p := (⟨b, 0, none⟩ : Addr).add j) (HBL.out j)).trans (HCV0.out j u hj))
            refine wpAnyZ_one (j := 19) (o := { dst := some 94, op := _, type := _, pos := _, after := _, guard := none }) rfl (by kernel_rfl) (by decide) ?_
            intro K1 hK1
            with_reducible refine step_append_imgs ?_ (.tmp 87) (.tmp 93) ?_ w1.heap.size (.slice A7 k7 c7) k7 _ ?_ (some ⟨b, 0, none⟩) 0 0 ?_ hown7 (vs.drop (cM * 2)) (by rw [List.length_drop]; omega) (fun j u hj => by rw [List.getElem?_eq_none (by rw [List.length_drop]; omega)] at hj; simp at hj) (fun u hu => HONE.out u (List.mem_of_mem_drop hu)) (by have := HK6.out; have := HK7.out; omega) h7.size ?_
            · rfl
            · rfl
            · rfl
            · rfl
            intro A8 c8 w8 hown8 hgr8 hl8
            generalize hk8 : k7 + 0 = k8 at hown8 hl8 ⊢
            have HK8 := Lib.hid hk8
            clear hk8
            have h8 : Below w1.heap.size w1 w8 := h7.grown hgr8 h7.size (fun k hk => (own_at hown7 k hk).1)
            have y8 : w8.cell? ⟨xr, 1, none⟩ = some (.slice (some ⟨b, 0, none⟩) cM cM) := (h8.cell (p := ⟨xr, 1, none⟩) hxl1).trans m1
            have f8 : w8.frozen? ⟨xr, 1, none⟩ = false := (h8.frozen (p := ⟨xr, 1, none⟩) hxl1).trans hxz
            refine hK1 _ _ y8 ?_
            clear hK1 K1 hgr8 hl8 hown7 h7 y7
            try simp only [Act.put, List.setIfInBounds_toArray, List.set_cons_zero, List.set_cons_succ]
            refine wpAnyZ_one (j := 20) (o := { dst := some 95, op := _, type := _, pos := _, after := _, guard := _ }) rfl (by kernel_rfl) (by decide) ?_
            intro K1 hK1
            rw [if_pos (by rfl)]
            go_simp
            refine hK1 _ _ y8 ?_
            clear hK1 K1
            try simp only [Act.put, List.setIfInBounds_toArray, List.set_cons_zero, List.set_cons_succ]
            refine wpAnyZ_one (j := 21) (o := { dst := some 96, op := _, type := _, pos := _, after := _, guard := _ }) rfl (by kernel_rfl) (by decide) ?_
            intro K1 hK1
            rw [if_pos (by rfl)]
            go_simp
            refine hK1 _ _ y8 ?_
            clear hK1 K1
            try simp only [Act.put, List.setIfInBounds_toArray, List.set_cons_zero, List.set_cons_succ]
            refine wpAnyZ_last (o := { dst := none, op := _, type := _, pos := _, after := _, guard := _ }) rfl (by kernel_rfl) ?_
            intro K1 hK1
            rw [if_pos (by rfl)]
            go_simp
            refine hK1 _ _ ?_
            clear hK1 K1
            refine wpAny_done (by kernel_rfl) ?_ _
            have HEND := Lib.hid (HH.out.insert (k := cM) hZ hbase (by rw [HN.out]; omega) HSET.out HB1.out h8 ⟨g1, cap1, rfl, HG1.out.2.2.2, HG1.out.1, HG1.out.2.1, HG1.out.2.2.1⟩ (by rw [HN.out]; exact HROW0.out.1) HROW0.out.2 (v' := .slice A8 k8 c8) (by rw [show M.length + 1 = k8 by rw [HN.out]; have := HK6.out; have := HK7.out; have := HK8.out; omega]; simpa using hown8))
            clear hown8 h8 y8 f8
            go_wp2
            go_ret
            exact ⟨rfl, HEND.out⟩
          · intro K1 hK1
            rw [if_pos (by rfl)]
            go_simp
            have hW0 : Below w1.heap.size w1 (w1.alloc (.cells #[.int .i64 i, .slice (some ⟨g1, 0, none⟩) 240 cap1] 101)).drew := ((Below.refl w1.heap.size w1).alloc (Nat.le_refl _) _).drew
            have yW0 : (w1.alloc (.cells #[.int .i64 i, .slice (some ⟨g1, 0, none⟩) 240 cap1] 101)).drew.cell? ⟨xr, 1, none⟩ = some (.slice (some ⟨b, 0, none⟩) cM cM) := (hW0.cell (p := ⟨xr, 1, none⟩) hxl1).trans m1
            have hlit0 : (w1.alloc (.cells #[.int .i64 i, .slice (some ⟨g1, 0, none⟩) 240 cap1] 101)).drew.heap[w1.heap.size]? = some (.cells #[.int .i64 i, .slice (some ⟨g1, 0, none⟩) 240 cap1] 101 (0, 0)) := heap_alloc_new w1 _
            have hsW0 : (w1.alloc (.cells #[.int .i64 i, .slice (some ⟨g1, 0, none⟩) 240 cap1] 101)).drew.heap.size = w1.heap.size + 1 := by show (w1.alloc _).heap.size = _; simp
            have HCW := Lib.hid (fun j u (hj : vs[j]? = some u) => (hW0.cell (p := (⟨b, 0, none⟩ : Addr).add j) (HBL.out j)).trans (HCV0.out j u hj))
            refine hK1 _ _ yW0 ?_
            clear hK1 K1
            try simp only [Act.put, List.setIfInBounds_toArray, List.set_cons_zero, List.set_cons_succ]
            refine wpAnyZ_one (j := 7) (o := { dst := some 82, op := _, type := _, pos := _, after := _, guard := none }) rfl (by kernel_rfl) (by decide) ?_
            intro K1 hK1
            have o0 : (w1.alloc (.cells #[.int .i64 i, .slice (some ⟨g1, 0, none⟩) 240 cap1] 101)).drew.ownsRow w1.heap.size 101 2 (.slice none 0 0) 0 [] := ⟨rfl, .inl ⟨rfl, rfl⟩⟩
            with_reducible refine step_append_imgs ?_ (.const (.slice none 0 0)) (.tmp 81) ?_ w1.heap.size (.slice none 0 0) 0 [] ?_ (some ⟨b, 0, none⟩) cM cM ?_ o0 (vs.take (cM * 2)) (by rw [List.length_take]; omega) (fun j u hj => ⟨_, rfl, HCW.out j u (by rw [List.getElem?_take] at hj; split at hj; exact hj; cases hj)⟩) (fun u hu => HONE.out u (List.mem_of_mem_take hu)) (by omega) (by simp) ?_
            · rfl
            · rfl
            · rfl
            · rfl
            intro A6 c6 w6 hown6 hgr6 hl6
            generalize hk6 : 0 + cM = k6 at hown6 hl6 ⊢
            have HK6 := Lib.hid hk6
            clear hk6
            have hW : Below w1.heap.size w1 w6 := hW0.grown hgr6 (by rw [hsW0]; omega) (fun k hk => by cases hk)
            have yW : w6.cell? ⟨xr, 1, none⟩ = some (.slice (some ⟨b, 0, none⟩) cM cM) := (hW.cell (p := ⟨xr, 1, none⟩) hxl1).trans m1
            have hlit : w6.heap[w1.heap.size]? = some (.cells #[.int .i64 i, .slice (some ⟨g1, 0, none⟩) 240 cap1] 101 (0, 0)) := (hgr6.block _ (by rw [hsW0]; omega) (fun e => by cases e)).trans hlit0
            have hgl : w1.heap.size ≤ w1.heap.size := Nat.le_refl _
            have hownW := hown6
            refine hK1 _ _ yW ?_
            rw [Array.setIfInBounds_comm _ _ (show (11 : Nat) ≠ 7 by decide)]
            clear hK1 K1 hown6 hgr6 hl6 hW0 yW0 hlit0 hsW0
            generalize w6 = W at hW yW hlit hownW ⊢
            generalize hgg : w1.heap.size = gl at hlit hgl
            try simp only [Act.put, List.setIfInBounds_toArray, List.set_cons_zero, List.set_cons_succ]
            have hone2 : ∀ u ∈ [Value.int .i64 i, .slice (some ⟨g1, 0, none⟩) 240 cap1], u.oneCell' = true := fun u hu => by simp at hu; rcases hu with rfl | rfl <;> rfl
            refine wpAnyZ_one (j := 12) (o := { dst := some 87, op := _, type := _, pos := _, after := _, guard := none }) rfl (by kernel_rfl) (by decide) ?_
            intro K1 hK1
            with_reducible refine step_append_imgs ?_ (.tmp 82) (.tmp 86) ?_ w1.heap.size (.slice A6 k6 c6) k6 _ ?_ (some ⟨gl, 0, none⟩) 1 1 ?_ hownW [.int .i64 i, .slice (some ⟨g1, 0, none⟩) 240 cap1] rfl (fun j u hj => ⟨_, rfl, World.news_of_block hlit j u hj⟩) hone2 (by have := HK6.out; omega) hW.size ?_
            · rfl
            · rfl
            · rfl
            · rfl
            intro A7 c7 w7 hown7 hgr7 hl7
            generalize hk7 : k6 + 1 = k7 at hown7 hl7 ⊢
            have HK7 := Lib.hid hk7
            clear hk7
            have h7 : Below w1.heap.size w1 w7 := hW.grown hgr7 hW.size (fun k hk => (own_at hownW k hk).1)
            have y7 : w7.cell? ⟨xr, 1, none⟩ = some (.slice (some ⟨b, 0, none⟩) cM cM) := (h7.cell (p := ⟨xr, 1, none⟩) hxl1).trans m1
            refine hK1 _ _ y7 ?_
            clear hK1 K1 hgr7 hl7 hlit hownW hW yW
            try simp only [Act.put, List.setIfInBounds_toArray, List.set_cons_zero, List.set_cons_succ]
            have HC7 := Lib.hid (fun j u (hj : vs[j]? = some u) => (h7.cell (p := (⟨b, 0, none⟩ : Addr).add j) (HBL.out j)).trans (HCV0.out j u hj))
            refine wpAnyZ_one (j := 19) (o := { dst := some 94, op := _, type := _, pos := _, after := _, guard := none }) rfl (by kernel_rfl) (by decide) ?_
            intro K1 hK1
            with_reducible refine step_append_imgs ?_ (.tmp 87) (.tmp 93) ?_ w1.heap.size (.slice A7 k7 c7) k7 _ ?_ (some ⟨b, 0, none⟩) 0 0 ?_ hown7 (vs.drop (cM * 2)) (by rw [List.length_drop]; omega) (fun j u hj => by rw [List.getElem?_eq_none (by rw [List.length_drop]; omega)] at hj; simp at hj) (fun u hu => HONE.out u (List.mem_of_mem_drop hu)) (by have := HK6.out; have := HK7.out; omega) h7.size ?_
            · rfl
            · rfl
            · rfl
            · rfl
            intro A8 c8 w8 hown8 hgr8 hl8
            generalize hk8 : k7 + 0 = k8 at hown8 hl8 ⊢
            have HK8 := Lib.hid hk8
            clear hk8
            have h8 : Below w1.heap.size w1 w8 := h7.grown hgr8 h7.size (fun k hk => (own_at hown7 k hk).1)
            have y8 : w8.cell? ⟨xr, 1, none⟩ = some (.slice (some ⟨b, 0, none⟩) cM cM) := (h8.cell (p := ⟨xr, 1, none⟩) hxl1).trans m1
            have f8 : w8.frozen? ⟨xr, 1, none⟩ = false := (h8.frozen (p := ⟨xr, 1, none⟩) hxl1).trans hxz
            refine hK1 _ _ y8 ?_
            clear hK1 K1 hgr8 hl8 hown7 h7 y7
            try simp only [Act.put, List.setIfInBounds_toArray, List.set_cons_zero, List.set_cons_succ]
            refine wpAnyZ_one (j := 20) (o := { dst := some 95, op := _, type := _, pos := _, after := _, guard := _ }) rfl (by kernel_rfl) (by decide) ?_
            intro K1 hK1
            rw [if_pos (by rfl)]
            go_simp
            refine hK1 _ _ y8 ?_
            clear hK1 K1
            try simp only [Act.put, List.setIfInBounds_toArray, List.set_cons_zero, List.set_cons_succ]
            refine wpAnyZ_one (j := 21) (o := { dst := some 96, op := _, type := _, pos := _, after := _, guard := _ }) rfl (by kernel_rfl) (by decide) ?_
            intro K1 hK1
            rw [if_pos (by rfl)]
            go_simp
            refine hK1 _ _ y8 ?_
            clear hK1 K1
            try simp only [Act.put, List.setIfInBounds_toArray, List.set_cons_zero, List.set_cons_succ]
            refine wpAnyZ_last (o := { dst := none, op := _, type := _, pos := _, after := _, guard := _ }) rfl (by kernel_rfl) ?_
            intro K1 hK1
            rw [if_pos (by rfl)]
            go_simp
            refine hK1 _ _ ?_
            clear hK1 K1
            refine wpAny_done (by kernel_rfl) ?_ _
            have HEND := Lib.hid (HH.out.insert (k := cM) hZ hbase (by rw [HN.out]; omega) HSET.out HB1.out h8 ⟨g1, cap1, rfl, HG1.out.2.2.2, HG1.out.1, HG1.out.2.1, HG1.out.2.2.1⟩ (by rw [HN.out]; exact HROW0.out.1) HROW0.out.2 (v' := .slice A8 k8 c8) (by rw [show M.length + 1 = k8 by rw [HN.out]; have := HK6.out; have := HK7.out; have := HK8.out; omega]; simpa using hown8))
            clear hown8 h8 y8 f8
            go_wp2
            go_ret
            exact ⟨rfl, HEND.out⟩
        · have x1 : w1.drew.cell? ⟨xr, 1, none⟩ = some (.slice (some ⟨b, 0, none⟩) k cM) := m1
          have hkc : (k : Int) ≤ (cM : Int) := by omega
          go_wp2_with fail
          refine wp_region_any (by rfl) ?_
          change wpAny _ _ _ _ _ _ _ w1.drew
          refine wpAny_of_Z (S := fun wz => wz.cell? ⟨xr, 1, none⟩ = some (.slice (some ⟨b, 0, none⟩) k cM)) (z := 22) _ _ _ _ ?_
          refine wpAnyZ_take (i := 0) (oi := { dst := some 75, op := _, type := _, pos := _, after := _, guard := _ }) (v := .pointer (some ⟨xr, 0, none⟩)) rfl (by decide) (by kernel_rfl) (by kernel_rfl) (by kernel_rfl) (by kernel_rfl) (fun _ _ _ h => h) (Or.inl ⟨by rfl, fun wz hS => ?_⟩) x1 ?_
          · go_simp
          try simp only [Act.put, List.setIfInBounds_toArray, List.set_cons_zero, List.set_cons_succ]
          refine wpAnyZ_take (i := 1) (oi := { dst := some 76, op := _, type := _, pos := _, after := _, guard := _ }) (v := .pointer (some ⟨xr, 0, none⟩)) rfl (by decide) (by kernel_rfl) (by kernel_rfl) (by kernel_rfl) (by kernel_rfl) (fun _ _ _ h => h) (Or.inl ⟨by rfl, fun wz hS => ?_⟩) x1 ?_
          · go_simp
          try simp only [Act.put, List.setIfInBounds_toArray, List.set_cons_zero, List.set_cons_succ]
          refine wpAnyZ_take (i := 2) (oi := { dst := some 77, op := _, type := _, pos := _, after := _, guard := _ }) (v := .pointer (some ⟨xr, 0, none⟩)) rfl (by decide) (by kernel_rfl) (by kernel_rfl) (by kernel_rfl) (by kernel_rfl) (fun _ _ _ h => h) (Or.inl ⟨by rfl, fun wz hS => ?_⟩) x1 ?_
          · go_simp
          try simp only [Act.put, List.setIfInBounds_toArray, List.set_cons_zero, List.set_cons_succ]
          refine wpAnyZ_take (i := 3) (oi := { dst := some 78, op := _, type := _, pos := _, after := _, guard := _ }) (v := .pointer (some ⟨xr, 1, none⟩)) rfl (by decide) (by kernel_rfl) (by kernel_rfl) (by kernel_rfl) (by kernel_rfl) (fun _ _ _ h => h) (Or.inl ⟨by rfl, fun wz hS => ?_⟩) x1 ?_
          · go_simp
          try simp only [Act.put, List.setIfInBounds_toArray, List.set_cons_zero, List.set_cons_succ]
          refine wpAnyZ_take (i := 4) (oi := { dst := some 79, op := _, type := _, pos := _, after := _, guard := _ }) (v := .slice (some ⟨b, 0, none⟩) k cM) rfl (by decide) (by kernel_rfl) (by kernel_rfl) (by kernel_rfl) (by kernel_rfl) (fun _ _ _ h => h) (Or.inl ⟨by rfl, fun wz hS => ?_⟩) x1 ?_
          · go_simp
          try simp only [Act.put, List.setIfInBounds_toArray, List.set_cons_zero, List.set_cons_succ]
          refine wpAnyZ_take (i := 5) (oi := { dst := some 80, op := _, type := _, pos := _, after := _, guard := _ }) (v := .int .i64 ((k : Nat) : Int)) rfl (by decide) (by kernel_rfl) (by kernel_rfl) (by kernel_rfl) (by kernel_rfl) (fun _ _ _ h => h) (Or.inl ⟨by rfl, fun wz hS => ?_⟩) x1 ?_
          · go_simp
          try simp only [Act.put, List.setIfInBounds_toArray, List.set_cons_zero, List.set_cons_succ]
          refine wpAnyZ_take (i := 6) (oi := { dst := some 81, op := _, type := _, pos := _, after := _, guard := _ }) (v := .slice (some ⟨b, 0, none⟩) k cM) rfl (by decide) (by kernel_rfl) (by kernel_rfl) (by kernel_rfl) (by kernel_rfl) (fun _ _ _ h => h) (Or.inl ⟨by rfl, fun wz hS => ?_⟩) x1 ?_
          · go_simp
            all_goals omega
          try simp only [Act.put, List.setIfInBounds_toArray, List.set_cons_zero, List.set_cons_succ]
          refine wpAnyZ_take (i := 8) (oi := { dst := some 83, op := _, type := _, pos := _, after := _, guard := _ }) (v := .int .i64 i) rfl (by decide) (by kernel_rfl) (by kernel_rfl) (by kernel_rfl) (by kernel_rfl) (fun _ _ _ h => h) (Or.inl ⟨by rfl, fun wz hS => ?_⟩) x1 ?_
          · go_simp
          try simp only [Act.put, List.setIfInBounds_toArray, List.set_cons_zero, List.set_cons_succ]
          refine wpAnyZ_take (i := 9) (oi := { dst := some 84, op := _, type := _, pos := _, after := _, guard := _ }) (v := .slice (some ⟨g1, 0, none⟩) 240 cap1) rfl (by decide) (by kernel_rfl) (by kernel_rfl) (by kernel_rfl) (by kernel_rfl) (fun _ _ _ h => h) (Or.inl ⟨by rfl, fun wz hS => ?_⟩) x1 ?_
          · go_simp
          try simp only [Act.put, List.setIfInBounds_toArray, List.set_cons_zero, List.set_cons_succ]
          refine wpAnyZ_take (i := 10) (oi := { dst := some 85, op := _, type := _, pos := _, after := _, guard := _ }) (v := .agg #[.int .i64 i, .slice (some ⟨g1, 0, none⟩) 240 cap1]) rfl (by decide) (by kernel_rfl) (by kernel_rfl) (by kernel_rfl) (by kernel_rfl) (fun _ _ _ h => h) (Or.inl ⟨by rfl, fun wz hS => ?_⟩) x1 ?_
          · go_simp
          try simp only [Act.put, List.setIfInBounds_toArray, List.set_cons_zero, List.set_cons_succ]
          refine wpAnyZ_take (i := 13) (oi := { dst := some 88, op := _, type := _, pos := _, after := _, guard := _ }) (v := .pointer (some ⟨xr, 0, none⟩)) rfl (by decide) (by kernel_rfl) (by kernel_rfl) (by kernel_rfl) (by kernel_rfl) (fun _ _ _ h => h) (Or.inl ⟨by rfl, fun wz hS => ?_⟩) x1 ?_
          · go_simp
          try simp only [Act.put, List.setIfInBounds_toArray, List.set_cons_zero, List.set_cons_succ]
          refine wpAnyZ_take (i := 14) (oi := { dst := some 89, op := _, type := _, pos := _, after := _, guard := _ }) (v := .pointer (some ⟨xr, 0, none⟩)) rfl (by decide) (by kernel_rfl) (by kernel_rfl) (by kernel_rfl) (by kernel_rfl) (fun _ _ _ h => h) (Or.inl ⟨by rfl, fun wz hS => ?_⟩) x1 ?_
          · go_simp
          try simp only [Act.put, List.setIfInBounds_toArray, List.set_cons_zero, List.set_cons_succ]
          refine wpAnyZ_take (i := 15) (oi := { dst := some 90, op := _, type := _, pos := _, after := _, guard := _ }) (v := .pointer (some ⟨xr, 1, none⟩)) rfl (by decide) (by kernel_rfl) (by kernel_rfl) (by kernel_rfl) (by kernel_rfl) (fun _ _ _ h => h) (Or.inl ⟨by rfl, fun wz hS => ?_⟩) x1 ?_
          · go_simp
          try simp only [Act.put, List.setIfInBounds_toArray, List.set_cons_zero, List.set_cons_succ]
          refine wpAnyZ_take (i := 16) (oi := { dst := some 91, op := _, type := _, pos := _, after := _, guard := _ }) (v := .slice (some ⟨b, 0, none⟩) k cM) rfl (by decide) (by kernel_rfl) (by kernel_rfl) (by kernel_rfl) (by kernel_rfl) (fun _ _ _ h => h) (Or.inl ⟨by rfl, fun wz hS => ?_⟩) x1 ?_
          · go_simp
          try simp only [Act.put, List.setIfInBounds_toArray, List.set_cons_zero, List.set_cons_succ]
          refine wpAnyZ_take (i := 17) (oi := { dst := some 92, op := _, type := _, pos := _, after := _, guard := _ }) (v := .int .i64 ((k : Nat) : Int)) rfl (by decide) (by kernel_rfl) (by kernel_rfl) (by kernel_rfl) (by kernel_rfl) (fun _ _ _ h => h) (Or.inl ⟨by rfl, fun wz hS => ?_⟩) x1 ?_
          · go_simp
          try simp only [Act.put, List.setIfInBounds_toArray, List.set_cons_zero, List.set_cons_succ]
          refine wpAnyZ_take (i := 18) (oi := { dst := some 93, op := _, type := _, pos := _, after := _, guard := _ }) (v := .slice (some ⟨b, k * 2, none⟩) 0 (cM - k)) rfl (by decide) (by kernel_rfl) (by kernel_rfl) (by kernel_rfl) (by kernel_rfl) (fun _ _ _ h => h) (Or.inl ⟨by rfl, fun wz hS => ?_⟩) x1 ?_
          · go_simp
            all_goals omega
          try simp only [Act.put, List.setIfInBounds_toArray, List.set_cons_zero, List.set_cons_succ]
          refine wpAnyZ_two (j := 7) (k := 11) (o := { dst := some 82, op := _, type := _, pos := _, after := _, guard := none }) (o' := { dst := some 86, op := _, type := _, pos := _, after := _, guard := none }) rfl rfl (by kernel_rfl) (by decide) (by decide) ?_ ?_
          · intro K1 hK1
            have o0 : w1.drew.ownsRow w1.heap.size 101 2 (.slice none 0 0) 0 [] := ⟨rfl, .inl ⟨rfl, rfl⟩⟩
            with_reducible refine step_append_imgs ?_ (.const (.slice none 0 0)) (.tmp 81) ?_ w1.heap.size (.slice none 0 0) 0 [] ?_ (some ⟨b, 0, none⟩) k cM ?_ o0 (vs.take (k * 2)) (by rw [List.length_take]; omega) (fun j u hj => ⟨_, rfl, HCV.out j u (by rw [List.getElem?_take] at hj; split at hj; exact hj; cases hj)⟩) (fun u hu => HONE.out u (List.mem_of_mem_take hu)) (by omega) (Nat.le_refl _) ?_
            · rfl
            · rfl
            · rfl
            · rfl
            intro A6 c6 w6 hown6 hgr6 hl6
            generalize hk6 : 0 + k = k6 at hown6 hl6 ⊢
            have HK6 := Lib.hid hk6
            clear hk6
            have hb6 : Below w1.heap.size w1 w6 := ((Below.refl w1.heap.size w1).drew).grown hgr6 (Nat.le_refl _) (fun k hk => by cases hk)
            have y6 : w6.cell? ⟨xr, 1, none⟩ = some (.slice (some ⟨b, 0, none⟩) k cM) := (hb6.cell (p := ⟨xr, 1, none⟩) hxl1).trans m1
            refine hK1 _ _ y6 ?_
            clear hK1 K1
            try simp only [Act.put, List.setIfInBounds_toArray, List.set_cons_zero, List.set_cons_succ]
            refine wpAnyZ_one (j := 11) (o := { dst := some 86, op := _, type := _, pos := _, after := _, guard := none }) rfl (by kernel_rfl) (by decide) ?_
            intro K1 hK1
            rw [if_pos (by rfl)]
            go_simp
            have hW : Below w1.heap.size w1 (w6.alloc (.cells #[.int .i64 i, .slice (some ⟨g1, 0, none⟩) 240 cap1] 101)) := hb6.alloc hb6.size _
            have yW : (w6.alloc (.cells #[.int .i64 i, .slice (some ⟨g1, 0, none⟩) 240 cap1] 101)).cell? ⟨xr, 1, none⟩ = some (.slice (some ⟨b, 0, none⟩) k cM) := (hW.cell (p := ⟨xr, 1, none⟩) hxl1).trans m1
            have hlit : (w6.alloc (.cells #[.int .i64 i, .slice (some ⟨g1, 0, none⟩) 240 cap1] 101)).heap[w6.heap.size]? = some (.cells #[.int .i64 i, .slice (some ⟨g1, 0, none⟩) 240 cap1] 101 (0, 0)) := heap_alloc_new _ _
            have hgl := hb6.size
            have hownW := hown6.alloc (.cells #[.int .i64 i, .slice (some ⟨g1, 0, none⟩) 240 cap1] 101)
            refine hK1 _ _ yW ?_
            clear hK1 K1 hown6 hgr6 hl6 hb6 y6
            generalize w6.alloc (.cells #[.int .i64 i, .slice (some ⟨g1, 0, none⟩) 240 cap1] 101) = W at hW yW hlit hownW ⊢
            generalize w6.heap.size = gl at hlit hgl ⊢
            try simp only [Act.put, List.setIfInBounds_toArray, List.set_cons_zero, List.set_cons_succ]
            have hone2 : ∀ u ∈ [Value.int .i64 i, .slice (some ⟨g1, 0, none⟩) 240 cap1], u.oneCell' = true := fun u hu => by simp at hu; rcases hu with rfl | rfl <;> rfl
            refine wpAnyZ_one (j := 12) (o := { dst := some 87, op := _, type := _, pos := _, after := _, guard := none }) rfl (by kernel_rfl) (by decide) ?_
            intro K1 hK1
            with_reducible refine step_append_imgs ?_ (.tmp 82) (.tmp 86) ?_ w1.heap.size (.slice A6 k6 c6) k6 _ ?_ (some ⟨gl, 0, none⟩) 1 1 ?_ hownW [.int .i64 i, .slice (some ⟨g1, 0, none⟩) 240 cap1] rfl (fun j u hj => ⟨_, rfl, World.news_of_block hlit j u hj⟩) hone2 (by have := HK6.out; omega) hW.size ?_
            · rfl
            · rfl
            · rfl
            · rfl
            intro A7 c7 w7 hown7 hgr7 hl7
            generalize hk7 : k6 + 1 = k7 at hown7 hl7 ⊢
            have HK7 := Lib.hid hk7
            clear hk7
            have h7 : Below w1.heap.size w1 w7 := hW.grown hgr7 hW.size (fun k hk => (own_at hownW k hk).1)
            have y7 : w7.cell? ⟨xr, 1, none⟩ = some (.slice (some ⟨b, 0, none⟩) k cM) := (h7.cell (p := ⟨xr, 1, none⟩) hxl1).trans m1
            refine hK1 _ _ y7 ?_
            clear hK1 K1 hgr7 hl7 hlit hownW hW yW
            try simp only [Act.put, List.setIfInBounds_toArray, List.set_cons_zero, List.set_cons_succ]
            have HC7 := Lib.hid (fun j u (hj : vs[j]? = some u) => (h7.cell (p := (⟨b, 0, none⟩ : Addr).add j) (HBL.out j)).trans (HCV0.out j u hj))
            refine wpAnyZ_one (j := 19) (o := { dst := some 94, op := _, type := _, pos := _, after := _, guard := none }) rfl (by kernel_rfl) (by decide) ?_
            intro K1 hK1
            with_reducible refine step_append_imgs ?_ (.tmp 87) (.tmp 93) ?_ w1.heap.size (.slice A7 k7 c7) k7 _ ?_ (some ⟨b, k * 2, none⟩) 0 (cM - k) ?_ hown7 (vs.drop (k * 2)) (by rw [List.length_drop]; omega) (fun j u hj => by rw [List.getElem?_eq_none (by rw [List.length_drop]; omega)] at hj; simp at hj) (fun u hu => HONE.out u (List.mem_of_mem_drop hu)) (by have := HK6.out; have := HK7.out; omega) h7.size ?_
            · rfl
            · rfl
            · rfl
            · rfl
            intro A8 c8 w8 hown8 hgr8 hl8
            generalize hk8 : k7 + 0 = k8 at hown8 hl8 ⊢
            have HK8 := Lib.hid hk8
            clear hk8
            have h8 : Below w1.heap.size w1 w8 := h7.grown hgr8 h7.size (fun k hk => (own_at hown7 k hk).1)
            have y8 : w8.cell? ⟨xr, 1, none⟩ = some (.slice (some ⟨b, 0, none⟩) k cM) := (h8.cell (p := ⟨xr, 1, none⟩) hxl1).trans m1
            have f8 : w8.frozen? ⟨xr, 1, none⟩ = false := (h8.frozen (p := ⟨xr, 1, none⟩) hxl1).trans hxz
            refine hK1 _ _ y8 ?_
            clear hK1 K1 hgr8 hl8 hown7 h7 y7
            try simp only [Act.put, List.setIfInBounds_toArray, List.set_cons_zero, List.set_cons_succ]
            refine wpAnyZ_one (j := 20) (o := { dst := some 95, op := _, type := _, pos := _, after := _, guard := _ }) rfl (by kernel_rfl) (by decide) ?_
            intro K1 hK1
            rw [if_pos (by rfl)]
            go_simp
            refine hK1 _ _ y8 ?_
            clear hK1 K1
            try simp only [Act.put, List.setIfInBounds_toArray, List.set_cons_zero, List.set_cons_succ]
            refine wpAnyZ_one (j := 21) (o := { dst := some 96, op := _, type := _, pos := _, after := _, guard := _ }) rfl (by kernel_rfl) (by decide) ?_
            intro K1 hK1
            rw [if_pos (by rfl)]
            go_simp
            refine hK1 _ _ y8 ?_
            clear hK1 K1
            try simp only [Act.put, List.setIfInBounds_toArray, List.set_cons_zero, List.set_cons_succ]
            refine wpAnyZ_last (o := { dst := none, op := _, type := _, pos := _, after := _, guard := _ }) rfl (by kernel_rfl) ?_
            intro K1 hK1
            rw [if_pos (by rfl)]
            go_simp
            refine hK1 _ _ ?_
            clear hK1 K1
            refine wpAny_done (by kernel_rfl) ?_ _
            have HEND := Lib.hid (HH.out.insert (k := k) hZ hbase (by rw [HN.out]; omega) HSET.out HB1.out h8 ⟨g1, cap1, rfl, HG1.out.2.2.2, HG1.out.1, HG1.out.2.1, HG1.out.2.2.1⟩ (by rw [HN.out]; exact HROW0.out.1) HROW0.out.2 (v' := .slice A8 k8 c8) (by rw [show M.length + 1 = k8 by rw [HN.out]; have := HK6.out; have := HK7.out; have := HK8.out; omega]; simpa using hown8))
            clear hown8 h8 y8 f8
            go_wp2
            go_ret
            exact ⟨rfl, HEND.out⟩
          · intro K1 hK1
            rw [if_pos (by rfl)]
            go_simp
            have hW0 : Below w1.heap.size w1 (w1.alloc (.cells #[.int .i64 i, .slice (some ⟨g1, 0, none⟩) 240 cap1] 101)).drew := ((Below.refl w1.heap.size w1).alloc (Nat.le_refl _) _).drew
            have yW0 : (w1.alloc (.cells #[.int .i64 i, .slice (some ⟨g1, 0, none⟩) 240 cap1] 101)).drew.cell? ⟨xr, 1, none⟩ = some (.slice (some ⟨b, 0, none⟩) k cM) := (hW0.cell (p := ⟨xr, 1, none⟩) hxl1).trans m1
            have hlit0 : (w1.alloc (.cells #[.int .i64 i, .slice (some ⟨g1, 0, none⟩) 240 cap1] 101)).drew.heap[w1.heap.size]? = some (.cells #[.int .i64 i, .slice (some ⟨g1, 0, none⟩) 240 cap1] 101 (0, 0)) := heap_alloc_new w1 _
            have hsW0 : (w1.alloc (.cells #[.int .i64 i, .slice (some ⟨g1, 0, none⟩) 240 cap1] 101)).drew.heap.size = w1.heap.size + 1 := by show (w1.alloc _).heap.size = _; simp
            have HCW := Lib.hid (fun j u (hj : vs[j]? = some u) => (hW0.cell (p := (⟨b, 0, none⟩ : Addr).add j) (HBL.out j)).trans (HCV0.out j u hj))
            refine hK1 _ _ yW0 ?_
            clear hK1 K1
            try simp only [Act.put, List.setIfInBounds_toArray, List.set_cons_zero, List.set_cons_succ]
            refine wpAnyZ_one (j := 7) (o := { dst := some 82, op := _, type := _, pos := _, after := _, guard := none }) rfl (by kernel_rfl) (by decide) ?_
            intro K1 hK1
            have o0 : (w1.alloc (.cells #[.int .i64 i, .slice (some ⟨g1, 0, none⟩) 240 cap1] 101)).drew.ownsRow w1.heap.size 101 2 (.slice none 0 0) 0 [] := ⟨rfl, .inl ⟨rfl, rfl⟩⟩
            with_reducible refine step_append_imgs ?_ (.const (.slice none 0 0)) (.tmp 81) ?_ w1.heap.size (.slice none 0 0) 0 [] ?_ (some ⟨b, 0, none⟩) k cM ?_ o0 (vs.take (k * 2)) (by rw [List.length_take]; omega) (fun j u hj => ⟨_, rfl, HCW.out j u (by rw [List.getElem?_take] at hj; split at hj; exact hj; cases hj)⟩) (fun u hu => HONE.out u (List.mem_of_mem_take hu)) (by omega) (by simp) ?_
            · rfl
            · rfl
            · rfl
            · rfl
            intro A6 c6 w6 hown6 hgr6 hl6
            generalize hk6 : 0 + k = k6 at hown6 hl6 ⊢
            have HK6 := Lib.hid hk6
            clear hk6
            have hW : Below w1.heap.size w1 w6 := hW0.grown hgr6 (by rw [hsW0]; omega) (fun k hk => by cases hk)
            have yW : w6.cell? ⟨xr, 1, none⟩ = some (.slice (some ⟨b, 0, none⟩) k cM) := (hW.cell (p := ⟨xr, 1, none⟩) hxl1).trans m1
            have hlit : w6.heap[w1.heap.size]? = some (.cells #[.int .i64 i, .slice (some ⟨g1, 0, none⟩) 240 cap1] 101 (0, 0)) := (hgr6.block _ (by rw [hsW0]; omega) (fun e => by cases e)).trans hlit0
            have hgl : w1.heap.size ≤ w1.heap.size := Nat.le_refl _
            have hownW := hown6
            refine hK1 _ _ yW ?_
            rw [Array.setIfInBounds_comm _ _ (show (11 : Nat) ≠ 7 by decide)]
            clear hK1 K1 hown6 hgr6 hl6 hW0 yW0 hlit0 hsW0
            generalize w6 = W at hW yW hlit hownW ⊢
            generalize hgg : w1.heap.size = gl at hlit hgl
            try simp only [Act.put, List.setIfInBounds_toArray, List.set_cons_zero, List.set_cons_succ]
            have hone2 : ∀ u ∈ [Value.int .i64 i, .slice (some ⟨g1, 0, none⟩) 240 cap1], u.oneCell' = true := fun u hu => by simp at hu; rcases hu with rfl | rfl <;> rfl
            refine wpAnyZ_one (j := 12) (o := { dst := some 87, op := _, type := _, pos := _, after := _, guard := none }) rfl (by kernel_rfl) (by decide) ?_
            intro K1 hK1
            with_reducible refine step_append_imgs ?_ (.tmp 82) (.tmp 86) ?_ w1.heap.size (.slice A6 k6 c6) k6 _ ?_ (some ⟨gl, 0, none⟩) 1 1 ?_ hownW [.int .i64 i, .slice (some ⟨g1, 0, none⟩) 240 cap1] rfl (fun j u hj => ⟨_, rfl, World.news_of_block hlit j u hj⟩) hone2 (by have := HK6.out; omega) hW.size ?_
            · rfl
            · rfl
            · rfl
            · rfl
            intro A7 c7 w7 hown7 hgr7 hl7
            generalize hk7 : k6 + 1 = k7 at hown7 hl7 ⊢
            have HK7 := Lib.hid hk7
            clear hk7
            have h7 : Below w1.heap.size w1 w7 := hW.grown hgr7 hW.size (fun k hk => (own_at hownW k hk).1)
            have y7 : w7.cell? ⟨xr, 1, none⟩ = some (.slice (some ⟨b, 0, none⟩) k cM) := (h7.cell (p := ⟨xr, 1, none⟩) hxl1).trans m1
            refine hK1 _ _ y7 ?_
            clear hK1 K1 hgr7 hl7 hlit hownW hW yW
            try simp only [Act.put, List.setIfInBounds_toArray, List.set_cons_zero, List.set_cons_succ]
            have HC7 := Lib.hid (fun j u (hj : vs[j]? = some u) => (h7.cell (p := (⟨b, 0, none⟩ : Addr).add j) (HBL.out j)).trans (HCV0.out j u hj))
            refine wpAnyZ_one (j := 19) (o := { dst := some 94, op := _, type := _, pos := _, after := _, guard := none }) rfl (by kernel_rfl) (by decide) ?_
            intro K1 hK1
            with_reducible refine step_append_imgs ?_ (.tmp 87) (.tmp 93) ?_ w1.heap.size (.slice A7 k7 c7) k7 _ ?_ (some ⟨b, k * 2, none⟩) 0 (cM - k) ?_ hown7 (vs.drop (k * 2)) (by rw [List.length_drop]; omega) (fun j u hj => by rw [List.getElem?_eq_none (by rw [List.length_drop]; omega)] at hj; simp at hj) (fun u hu => HONE.out u (List.mem_of_mem_drop hu)) (by have := HK6.out; have := HK7.out; omega) h7.size ?_
            · rfl
            · rfl
            · rfl
            · rfl
            intro A8 c8 w8 hown8 hgr8 hl8
            generalize hk8 : k7 + 0 = k8 at hown8 hl8 ⊢
            have HK8 := Lib.hid hk8
            clear hk8
            have h8 : Below w1.heap.size w1 w8 := h7.grown hgr8 h7.size (fun k hk => (own_at hown7 k hk).1)
            have y8 : w8.cell? ⟨xr, 1, none⟩ = some (.slice (some ⟨b, 0, none⟩) k cM) := (h8.cell (p := ⟨xr, 1, none⟩) hxl1).trans m1
            have f8 : w8.frozen? ⟨xr, 1, none⟩ = false := (h8.frozen (p := ⟨xr, 1, none⟩) hxl1).trans hxz
            refine hK1 _ _ y8 ?_
            clear hK1 K1 hgr8 hl8 hown7 h7 y7
            try simp only [Act.put, List.setIfInBounds_toArray, List.set_cons_zero, List.set_cons_succ]
            refine wpAnyZ_one (j := 20) (o := { dst := some 95, op := _, type := _, pos := _, after := _, guard := _ }) rfl (by kernel_rfl) (by decide) ?_
            intro K1 hK1
            rw [if_pos (by rfl)]
            go_simp
            refine hK1 _ _ y8 ?_
            clear hK1 K1
            try simp only [Act.put, List.setIfInBounds_toArray, List.set_cons_zero, List.set_cons_succ]
            refine wpAnyZ_one (j := 21) (o := { dst := some 96, op := _, type := _, pos := _, after := _, guard := _ }) rfl (by kernel_rfl) (by decide) ?_
            intro K1 hK1
            rw [if_pos (by rfl)]
            go_simp
            refine hK1 _ _ y8 ?_
            clear hK1 K1
            try simp only [Act.put, List.setIfInBounds_toArray, List.set_cons_zero, List.set_cons_succ]
            refine wpAnyZ_last (o := { dst := none, op := _, type := _, pos := _, after := _, guard := _ }) rfl (by kernel_rfl) ?_
            intro K1 hK1
            rw [if_pos (by rfl)]
            go_simp
            refine hK1 _ _ ?_
            clear hK1 K1
            refine wpAny_done (by kernel_rfl) ?_ _
            have HEND := Lib.hid (HH.out.insert (k := k) hZ hbase (by rw [HN.out]; omega) HSET.out HB1.out h8 ⟨g1, cap1, rfl, HG1.out.2.2.2, HG1.out.1, HG1.out.2.1, HG1.out.2.2.1⟩ (by rw [HN.out]; exact HROW0.out.1) HROW0.out.2 (v' := .slice A8 k8 c8) (by rw [show M.length + 1 = k8 by rw [HN.out]; have := HK6.out; have := HK7.out; have := HK8.out; omega]; simpa using hown8))
            clear hown8 h8 y8 f8
            go_wp2
            go_ret
            exact ⟨rfl, HEND.out⟩
end

end Go.Proofs.YtkpmfobmlaldfaaGreatDoor

/-
  The statement package's own check over the program's pager: it returns true. Condition: the table that crc.Step reads holds what the program's text lays in it.
-/
namespace Go.Proofs.YtkpmfobmlaldfaaGreatDoor
open Go.RowKit
set_option maxRecDepth 100000
set_option linter.unusedVariables false

/-- The one image of the check. -/
def awI : List (Int × List Int) := [(1, reps 240 7)]
theorem awI_imgs : Imgs 9 1 awI := by
  have hp : pagesOf 9 = 4 := by decide
  refine ⟨fun x hx => ?_, fun x hx => ?_, by decide, by rw [hp]; decide, by decide, by decide⟩
  · rw [hp]
    obtain rfl := List.mem_singleton.1 hx
    exact ⟨by decide, by decide, reps_length _ _⟩
  · obtain rfl := List.mem_singleton.1 hx
    exact reps_bytes _ (by decide)
theorem awI_end {S : DS} (hF : Free S) (hn : S.n = 9) (hw : S.writes = 1) (hR : Rests S fresh1) : (commitS S 1 awI).1 = 0 ∧ (commitS S 1 awI).2.1 = 2 ∧ (commitS S 1 awI).2.2.n = 9 ∧ loadS (commitS S 1 awI).2.2 1 = (reps 240 7, 0) := by
  obtain ⟨h1, h2, h3, h4, h5, h6⟩ := free_commit (n := 9) (by rw [hn]; rfl) (by decide) awI_imgs (by decide) hF hR
  refine ⟨h1, h2, by rw [h4, hn], ?_⟩
  rw [load_rests (n := 9) (by rw [h4, hn]; rfl) h6 (by decide)]
  rw [(pages_marked awI_imgs).1 (1, reps 240 7) (List.mem_cons_self ..)]
theorem set_one {S : DS} {l : List Int} (hn : S.n = 9) (hl : l.length = 240) : setPgE S 1 l = 0 ∧ setPg S [] 1 l = [(1, l)] := by
  have hP : S.P = 4 := by unfold DS.P; rw [hn]; decide
  unfold setPgE setPg
  rw [if_neg (by rw [hP, hl]; decide), if_neg (by rw [hP, hl]; decide)]
  exact ⟨rfl, rfl⟩
theorem S0_facts {n : Nat} (hn : 3 ≤ n ∧ n ≤ 65536) : Free (S0 n) ∧ (S0 n).n = n ∧ (S0 n).writes = 1 ∧ Rests (S0 n) fresh1 := by
  obtain ⟨r1, r2, r3, r4, r5, r6, r7⟩ := fresh_log (m := n) hn
  exact ⟨r4, r5, r6, r7⟩

section
variable {D : World → (Nat → Prop) → Addr → DS → Prop} {w0 w w' : World} {F O : Nat → Prop} {p : Addr} {S : DS} {q r b : Nat} {s : Int} {L : List (Int × List Int)}

/-! ### a law's own pager, call by call -/
theorem lset (api : DiskApi D) (h : LawP D w0 w F O p S q s r b L) (i : Int) {A : Option Addr} {n c B : Nat} {l : List Int} (hi : -9223372036854775808 ≤ i ∧ i ≤ 9223372036854775807) (hr : RB w B A n l) (hB : B ≤ w.heap.size) (hn : n ≤ maxLen) :
    Calls Tryz.prog 12 #[.pointer (some ⟨r, 0, none⟩), .int .i64 i, .slice A n c] w fun e w' => e = .returned (.int .i64 (setPgE S i l)) ∧ ∃ O', LawP D w0 w' F O' p S q s r b (setPg S L i l) ∧ Touch O w w' ∧ ∀ k, O' k → O k ∨ w.heap.size ≤ k := by
  refine (pset_any (c := c) api h.pg i hi hr hB hn).mono ?_
  rintro e w' ⟨rfl, O', hp, ht, hO⟩
  exact ⟨rfl, O', h.next hp ht hO, ht, hO⟩
theorem lget (api : DiskApi D) (h : LawP D w0 w F O p S q s r b L) (i : Int) (hi : -9223372036854775808 ≤ i ∧ i ≤ 9223372036854775807) : Calls Tryz.prog 15 #[.pointer (some ⟨r, 0, none⟩), .int .i64 i] w fun e w' => ∃ A n c, e = .returned (.tuple #[.slice A n c, .int .i64 (getPg S L i).2]) ∧ n ≤ c ∧ RB w' w'.heap.size A n (getPg S L i).1 ∧ LawP D w0 w' F O p S q s r b L ∧ Below w.heap.size w w' := by
  refine (pget_any api h.pg h.tabF i hi).mono ?_
  rintro e w' ⟨A, n, c, rfl, hc, hr, hb⟩
  exact ⟨A, n, c, rfl, hc, hr, h.later api hb, hb⟩
theorem labort (api : DiskApi D) (h : LawP D w0 w F O p S q s r b L) : Calls Tryz.prog 20 #[.pointer (some ⟨r, 0, none⟩)] w fun e w' => e = .returned (.tuple #[]) ∧ LawP D w0 w' F O p S q s r b [] ∧ Touch O w w' ∧ ∀ k, k < w.heap.size → k ≠ b → w'.heap[k]? = w.heap[k]? := by
  refine (pabort_any api h.pg).mono ?_
  rintro e w' ⟨rfl, hp, hg⟩
  have ht := touch_grown (X := O) hg (h.pg.own b (.inr (.inr (.inr rfl))))
  exact ⟨rfl, h.next hp ht (fun k hk => .inl hk), ht, fun k hk hne => hg.block k hk (fun e => hne (Option.some.inj e))⟩
/-- A block of cells is not the map. -/
theorem LawP.not_map (h : LawP D w0 w F O p S q s r b L) {a : Addr} {v : Value} (hc : w.cell? a = some v) : a.block ≠ b := fun e => by
  obtain ⟨f, hf, _⟩ := h.pg.set
  obtain ⟨es, c, hb⟩ := hf.block
  have : w.heap[a.block]? = some (.map es c) := by rw [e]; exact hb
  unfold World.cell? at hc
  rw [this] at hc
  simp at hc
theorem lcommit (api : DiskApi D) (h : LawP D w0 w F O p S q s r b L) (hs : 0 ≤ s ∧ s < 4611686018427387904) (hw : S.writes ≤ 9223372036854500000) :
    Calls Tryz.prog 18 #[.pointer (some ⟨r, 0, none⟩)] w fun e w' => e = .returned (.int .i64 (commitS S s L).1) ∧ ∃ F' O', LawP D w0 w' F' O' p (commitS S s L).2.2 q (commitS S s L).2.1 r b (leftPg S s L) ∧ Touch O w w' ∧ ∀ k, O' k → O k ∨ w.heap.size ≤ k := by
  refine (pcommit_any api h.pg h.tabF hs hw).mono ?_
  rintro e w' ⟨rfl, F', O', hp, ht, hF, hO⟩
  exact ⟨rfl, F', O', h.next hp ht hO, ht, hO⟩
theorem lchanged (api : DiskApi D) (h : LawP D w0 w F O p S q s r b L) : Calls Tryz.prog 22 #[.pointer (some ⟨r, 0, none⟩)] w fun e w' => ∃ (A : Option Addr) (c : Nat), e = .returned (.slice A L.length c) ∧ L.length ≤ c ∧ RI w' w'.heap.size A L.length (L.map (·.1)) ∧ LawP D w0 w' F O p S q s r b L ∧ Below w.heap.size w w' := by
  refine (pchanged_any api h.pg).mono ?_
  rintro e w' ⟨A, c, rfl, hc, hr, hb⟩
  exact ⟨A, c, rfl, hc, hr, h.later api hb, hb⟩

set_option maxHeartbeats 4000000 in
theorem pgAwake_any (api : DiskApi D) (w : World) (ht : Tab w ∧ 1 < w.heap.size) : Calls Tryz.prog 11 #[] w fun e w' => e = .returned (.bool true) ∧ Below w.heap.size w w' := by
  obtain ⟨r4, r5, r6, r7⟩ := S0_facts (n := 9) (by decide)
  have HFR := Lib.hid (fresh_any api (n := 9) (by decide) w ht)
  rw [show ((9 : Nat) : Int) = 9 from rfl] at HFR
  generalize S0 9 = S at *
  obtain ⟨e1, e2, e3, e4⟩ := awI_end r4 r5 r6 r7
  obtain ⟨a1, a2⟩ := set_one (S := S) (l := reps 240 7) r5 (reps_length _ _)
  obtain ⟨b1, b2⟩ := set_one (S := (commitS S 1 awI).2.2) (l := reps 240 8) e3 (reps_length _ _)
  have hleft : leftPg S 1 awI = [] := if_pos e1
  have hg1 : getPg (commitS S 1 awI).2.2 [(1, reps 240 8)] 1 = (reps 240 8, 0) := rfl
  have hg2 : getPg (commitS S 1 awI).2.2 [] 1 = (reps 240 7, 0) := e4
  have hw : S.writes ≤ 9223372036854500000 := by omega
  have a2' : setPg S [] 1 (reps 240 7) = awI := a2
  have HQ := Lib.hid (And.intro e1 (And.intro e2 (And.intro a1 (And.intro a2' (And.intro b1 (And.intro b2 (And.intro hleft (And.intro hg1 hg2))))))))
  clear e1 e2 e3 e4 a1 a2 a2' b1 b2 hleft hg1 hg2 r4 r5 r6 r7
  go_enter Tryz.func11, Tryz.ntmps11
  go_wp2_with fail
  refine HFR.out.mono ?_
  rintro e w1 ⟨r, xr, b, q, q', F, O, G, p, xa, rfl, h1⟩
  have H1 := Lib.hid h1.toLawP
  clear h1 HFR
  go_wp2_with fail
  refine (page_any 7 (by decide) w1).mono ?_
  rintro e w2 ⟨g2, rfl, _, hr2, hb2⟩
  have HS2 := Lib.hid (lset (c := 240) api (H1.out.later api hb2) 1 (by decide) hr2 (Nat.le_refl _) (by decide))
  rw [HQ.out.2.2.1, HQ.out.2.2.2.1] at HS2
  clear hr2 hb2 H1
  go_wp2_with fail
  refine HS2.out.mono ?_
  rintro e w3 ⟨rfl, O3, h3, _⟩
  have HC3 := Lib.hid (lcommit api h3 (by decide) hw)
  rw [HQ.out.1, HQ.out.2.1, HQ.out.2.2.2.2.2.2.1] at HC3
  clear h3 HS2
  generalize (commitS S 1 awI).2.2 = S' at *
  go_wp2_with fail
  refine HC3.out.mono ?_
  rintro e w4 ⟨rfl, F4, O4, h4, _⟩
  have H4 := Lib.hid h4
  clear h4 HC3
  go_wp2_with fail
  refine (page_any 8 (by decide) w4).mono ?_
  rintro e w5 ⟨g5, rfl, _, hr5, hb5⟩
  have HS5 := Lib.hid (lset (c := 240) api (H4.out.later api hb5) 1 (by decide) hr5 (Nat.le_refl _) (by decide))
  rw [HQ.out.2.2.2.2.1, HQ.out.2.2.2.2.2.1] at HS5
  clear hr5 hb5 H4
  go_wp2_with fail
  refine HS5.out.mono ?_
  rintro e w6 ⟨rfl, O6, h6, _⟩
  have HG6 := Lib.hid (lget api h6 1 (by decide))
  rw [HQ.out.2.2.2.2.2.2.2.1] at HG6
  clear h6 HS5
  go_wp2_with fail
  refine HG6.out.mono ?_
  rintro e w7 ⟨A7, n7, c7, rfl, hc7, hr7, h7, _⟩
  obtain rfl : n7 = 240 := by rw [← hr7.len]; exact reps_length _ _
  have HA7 := Lib.hid (labort api h7)
  have hlt7 := h7.pg.lt
  obtain ⟨ab, ao, rfl, hab, hcell⟩ := hr7.at_ (by decide)
  have a0 := hcell 0 (by decide)
  rw [reps_getD (by decide), Nat.add_zero] at a0
  have hnm := h7.not_map a0
  clear hr7 hcell h7 HG6
  go_wp2_with fail
  refine HA7.out.mono ?_
  rintro e w8 ⟨rfl, h8, t8, hk8⟩
  have a8 := (World.cell?_of_block (a := ⟨ab, ao, none⟩) (hk8 ab hab hnm)).trans a0
  have hab8 := Nat.lt_of_lt_of_le hab t8.size
  have HG8 := Lib.hid (lget api h8 1 (by decide))
  rw [HQ.out.2.2.2.2.2.2.2.2] at HG8
  clear h8 t8 hk8 a0 HA7 hnm
  go_wp2_with fail
  refine HG8.out.mono ?_
  rintro e w9 ⟨A9, n9, c9, rfl, hc9, hr9, h9, hb9⟩
  obtain rfl : n9 = 240 := by rw [← hr9.len]; exact reps_length _ _
  obtain ⟨bb, bo, rfl, hbb, hcell⟩ := hr9.at_ (by decide)
  have b0 := hcell 0 (by decide)
  rw [reps_getD (by decide), Nat.add_zero] at b0
  have a9 := (hb9.cell (p := ⟨ab, ao, none⟩) hab8).trans a8
  have HF := Lib.hid h9.bel
  clear hr9 hcell h9 hb9 HG8 a8
  go_wp2
  go_ret
  exact ⟨rfl, HF.out⟩
end

end Go.Proofs.YtkpmfobmlaldfaaGreatDoor

/-
  Words for the statements' list of calls: a slice of calls as it lies in memory; how the statements' opening gives it; what keeps it; a call in a block of its own. Plain facts; no condition beyond what each says.
-/
namespace Go.Proofs.YtkpmfobmlaldfaaGreatDoor
open Go.RowKit
set_option maxRecDepth 100000
set_option linter.unusedVariables false

/-- A call of a statement's list. -/
structure Do7 where
  op : Int
  i : Int
  b : Int

/-- How it lies in memory. -/
def Do7At (w : World) (b off : Nat) (d : Do7) : Prop :=
  w.cell? ⟨b, off, none⟩ = some (.int .i64 d.op) ∧ w.cell? ⟨b, off + 1, none⟩ = some (.int .i64 d.i) ∧ w.cell? ⟨b, off + 2, none⟩ = some (.int .u8 d.b) ∧
  (-9223372036854775808 ≤ d.op ∧ d.op ≤ 9223372036854775807) ∧ (-9223372036854775808 ≤ d.i ∧ d.i ≤ 9223372036854775807) ∧ (0 ≤ d.b ∧ d.b < 256)
/-- The slice at A of n calls reads as the list ds in w, and lies below block B. -/
def RDos7 (w : World) (B : Nat) (A : Option Addr) (n : Nat) (ds : List Do7) : Prop :=
  ds.length = n ∧ (0 < n → ∃ b off, A = some ⟨b, off, none⟩ ∧ b < B ∧ ∀ j, j < n → ∃ d, ds[j]? = some d ∧ Do7At w b (off + j * 3) d)

theorem Do7At.keep {w w' : World} {B b off : Nat} {d : Do7} (h : Do7At w b off d) (hb : b < B) (hk : ∀ b o, b < B → w'.cell? ⟨b, o, none⟩ = w.cell? ⟨b, o, none⟩) : Do7At w' b off d := by
  obtain ⟨h0, h1, h2, h3⟩ := h
  exact ⟨(hk _ _ hb).trans h0, (hk _ _ hb).trans h1, (hk _ _ hb).trans h2, h3⟩
theorem RDos7.nil_ {w : World} {B : Nat} {A : Option Addr} : RDos7 w B A 0 [] := ⟨rfl, fun h => absurd h (by omega)⟩
theorem RDos7.len {w : World} {B n : Nat} {A : Option Addr} {ds : List Do7} (h : RDos7 w B A n ds) : ds.length = n := h.1
theorem RDos7.keep {w w' : World} {B n : Nat} {A : Option Addr} {ds : List Do7} (h : RDos7 w B A n ds) (hk : ∀ b o, b < B → w'.cell? ⟨b, o, none⟩ = w.cell? ⟨b, o, none⟩) : RDos7 w' B A n ds :=
  ⟨h.1, fun hn => by
    obtain ⟨b, off, e, hb, hc⟩ := h.2 hn
    refine ⟨b, off, e, hb, fun j hj => ?_⟩
    obtain ⟨d, hd, hat⟩ := hc j hj
    exact ⟨d, hd, hat.keep hb hk⟩⟩
theorem RDos7.below {w w' : World} {B n : Nat} {A : Option Addr} {ds : List Do7} (h : RDos7 w B A n ds) (hb : Below B w w') : RDos7 w' B A n ds := h.keep fun b o hp => hb.cell (p := ⟨b, o, none⟩) hp
/-- A call in a block of its own. -/
def Do7Blk (w : World) (b : Nat) (d : Do7) : Prop := w.heap[b]? = some (.cells #[.int .i64 d.op, .int .i64 d.i, .int .u8 d.b] 29 (0, 0))
theorem Do7Blk.cells {w : World} {b : Nat} {d : Do7} (h : Do7Blk w b d) : w.cell? ⟨b, 0, none⟩ = some (.int .i64 d.op) ∧ w.cell? ⟨b, 1, none⟩ = some (.int .i64 d.i) ∧ w.cell? ⟨b, 2, none⟩ = some (.int .u8 d.b) ∧ b < w.heap.size := by
  refine ⟨?_, ?_, ?_, (Array.getElem?_eq_some_iff.1 h).1⟩ <;> (rw [cell_of_row w b _ _ _ (0, 0) h]; rfl)

theorem cellInt : Tryz.prog.cellsOf 3 = 1 := by kernel_rfl
theorem cellU8 : Tryz.prog.cellsOf 5 = 1 := by kernel_rfl
theorem do7Cells : Tryz.prog.cellsOf 29 = 3 := by kernel_rfl
open Go.ChangeShapes Go.WideShapes Go.Deep in
theorem open_dos7 {H : Type} {enc : TypeId × Value → H} {w : World} {fuel : Nat} {cs : List Value} {x : DataW H × List MemPlace} (h : DataW.trod enc Tryz.prog w 0 (fun _ => true) true fuel 22 cs = some x) :
    cs = [.slice none 0 0] ∨ ∃ (a : Addr) (len cap : Nat) (ds : List Do7), cs = [.slice (some a) len cap] ∧ len ≤ cap ∧ cap ≤ maxLen ∧ RDos7 w w.heap.size (some a) len ds := by
  obtain ⟨fs, hfs⟩ : ∃ fs, Tryz.prog.underlying 29 = some (.struct fs) := ⟨_, Tryz.underlying29⟩
  rcases open_slice Tryz.underlying22 h with ⟨h0, _⟩ | ⟨a, len, cap, m, n, D, Pl, hcs, hb, hl, hm, hmm, hx, hi⟩
  · exact .inl h0
  · right
    have hmc : m = cap := by simpa using hmm
    have each : ∀ i, i < len → ∃ d, ∀ b off, a = ⟨b, off, none⟩ → Do7At w b (off + i * 3) d := by
      intro i hilen
      obtain ⟨cs', hc, ht'⟩ := hi i (by omega)
      rw [do7Cells] at hc
      obtain ⟨ys, n', hn', hy, hlen, hyl, hf⟩ := DataW.trod_struct Tryz.underlying29 ht'
      obtain ⟨_, hcl, hat⟩ := World.cells?_some hc
      match cs', hcl with
      | [c0, c1, c2], _ =>
        match ys, hyl with
        | [y0, y1, y2], _ =>
          have f0 : DataW.trod enc Tryz.prog w 0 (fun _ => true) true n' 3 (([c0, c1, c2].drop 0).take (Tryz.prog.cellsOf 3)) = [y0, y1, y2][0]? := hf 0 _ rfl
          rw [cellInt] at f0
          have f1 : DataW.trod enc Tryz.prog w 0 (fun _ => true) true n' 3 (([c0, c1, c2].drop 1).take (Tryz.prog.cellsOf 3)) = [y0, y1, y2][1]? := hf 1 _ rfl
          rw [cellInt] at f1
          have f2 : DataW.trod enc Tryz.prog w 0 (fun _ => true) true n' 5 (([c0, c1, c2].drop 2).take (Tryz.prog.cellsOf 5)) = [y0, y1, y2][2]? := hf 2 _ rfl
          rw [cellU8] at f2
          simp only [List.drop_zero, List.take_succ_cons, List.take_zero, List.drop_succ_cons, List.getElem?_cons_zero, List.getElem?_cons_succ] at f0 f1 f2
          obtain ⟨n0, e0, _, w0⟩ := DataW.trod_int Tryz.underlying3 f0
          obtain ⟨n1, e1, _, w1⟩ := DataW.trod_int Tryz.underlying3 f1
          obtain ⟨n2, e2, _, w2⟩ := DataW.trod_int Tryz.underlying5 f2
          simp only [List.cons.injEq, and_true] at e0 e1 e2
          subst e0 e1 e2
          refine ⟨⟨n0, n1, n2⟩, fun b off ha => ?_⟩
          subst ha
          have a0 := hat 0 (by decide)
          have a1 := hat 1 (by decide)
          have a2 := hat 2 (by decide)
          simp only [add_none, List.getElem?_cons_zero, List.getElem?_cons_succ, Nat.add_zero] at a0 a1 a2
          exact ⟨a0, a1, a2, int_bounds w0, int_bounds w1, byte_bounds w2⟩
    obtain ⟨f, hf⟩ : ∃ f : Nat → Do7, ∀ i, i < len → ∀ b off, a = ⟨b, off, none⟩ → Do7At w b (off + i * 3) (f i) := by
      refine ⟨fun i => if h : i < len then (each i h).choose else ⟨0, 0, 0⟩, fun i hil => ?_⟩
      simp only [hil, dif_pos]
      exact (each i hil).choose_spec
    refine ⟨a, len, cap, (List.range len).map f, hcs, hl, hm, by simp, fun hn => ?_⟩
    obtain ⟨cs', hc, _⟩ := hi 0 (by omega)
    rw [do7Cells] at hc
    obtain ⟨_, hcl, hat⟩ := World.cells?_some hc
    have h0 := hat 0 (by decide)
    have hlt0 : 0 < cs'.length := by omega
    rw [List.getElem?_eq_getElem hlt0] at h0
    obtain ⟨b, off, spot⟩ := a
    have hspot : spot = none := by simpa [Addr.add] using World.cell?_spot h0
    subst hspot
    refine ⟨b, off, rfl, ?_, fun j hj => ⟨f j, by simp [hj], hf j hj b off rfl⟩⟩
    have := World.block_lt_of_cell? _ _ h0
    simpa [Addr.add] using this
end Go.Proofs.YtkpmfobmlaldfaaGreatDoor

/-
  slices.Equal on ints by its contract: whether they are the same. Nothing is written. No condition.
-/
namespace Go.Proofs.YtkpmfobmlaldfaaGreatDoor
open Go.RowKit
set_option maxRecDepth 100000
set_option linter.unusedVariables false

theorem same_of {l m : List Int} (h : l.length = m.length) (he : ∀ j, j < l.length → l[j]?.getD 0 = m[j]?.getD 0) : l = m := by
  apply List.ext_getElem h
  intro j h1 h2
  have := he j h1
  rw [List.getElem?_eq_getElem h1, List.getElem?_eq_getElem h2] at this
  exact this

theorem belowI_drewN {B : Nat} {w w' : World} (h : Below B w w') : ∀ n, Below B w (w'.drewN n) := fun n => ⟨h.os, h.tape, h.output, h.size, h.block⟩

set_option maxHeartbeats 800000 in
theorem EqualInts_any {w : World} {B B' n m : Nat} {A A' : Option Addr} {l l' : List Int} (c d : Nat) (hr : RI w B A n l) (hr' : RI w B' A' m l') (hm : n ≤ maxLen) (hm' : m ≤ maxLen) (hB : B ≤ w.heap.size) (hB' : B' ≤ w.heap.size) :
    Calls Tryz.prog 21 #[.slice A n c, .slice A' m d] w fun e w' => e = .returned (.bool (decide (l = l'))) ∧ Below w.heap.size w w' := by
  unfold maxLen at hm hm'
  have hlen := hr.len
  have hlen' := hr'.len
  by_cases hnm : n = m
  · subst hnm
    have hne : ((n : Int) != (n : Int)) = false := by simp
    go_enter Tryz.func21, Tryz.ntmps21
    go_wp2
    go_loopw [13] (fun i wr => ∃ k : Nat, k ≤ n ∧ i = .int .i64 k ∧ Hid (∀ j, j < k → l[j]?.getD 0 = l'[j]?.getD 0) ∧ Below w.heap.size w wr) (fun i _ => n - (intOf i).toNat)
    case atStart => exact ⟨0, Nat.zero_le _, rfl, Lib.hid (fun j hj => absurd hj (by omega)), Below.refl _ _⟩
    case round =>
      obtain ⟨k, hk, rfl, hbef, hbw⟩ := hrel
      by_cases hlt : k < n
      · obtain ⟨b, off, rfl, hb, hcell⟩ := hr.2.2 (by omega)
        obtain ⟨b', off', rfl, hb', hcell'⟩ := hr'.2.2 (by omega)
        have hck := (hbw.cell (p := ⟨b, off + k, none⟩) (Nat.lt_of_lt_of_le hb hB)).trans (hcell k hlt)
        have hck' := (hbw.cell (p := ⟨b', off' + k, none⟩) (Nat.lt_of_lt_of_le hb' hB')).trans (hcell' k hlt)
        clear hcell hcell'
        have hlt' : (k : Int) < (n : Int) := by omega
        by_cases hv : l[k]?.getD 0 = l'[k]?.getD 0
        · have hn := Lib.hid (fun j (hj : j < k + 1) => show l[j]?.getD 0 = l'[j]?.getD 0 by
            rcases Nat.lt_or_ge j k with h | h
            · exact hbef.out j h
            · obtain rfl : j = k := by omega
              exact hv)
          have kv : (l[k]?.getD 0 != l'[k]?.getD 0) = false := by simp [hv]
          clear hv
          generalize l[k]?.getD 0 = u at hck kv
          generalize l'[k]?.getD 0 = u' at hck' kv
          go_wp2_with fail
          go_quiet (fail)
          go_wp2
          go_roundw
          case rel => exact ⟨k + 1, by omega, by go_num, hn, belowI_drewN hbw _⟩
          case measure => simp [intOf]; omega
        · have hd := Lib.hid (show decide (l = l') = false by
            have : ¬ l = l' := fun e => hv (by rw [e])
            simpa using this)
          have kv : (l[k]?.getD 0 != l'[k]?.getD 0) = true := by simpa using hv
          clear hv
          generalize l[k]?.getD 0 = u at hck kv
          generalize l'[k]?.getD 0 = u' at hck' kv
          go_wp2_with fail
          go_quiet (fail)
          go_wp2
          go_ret
          rw [hd.out]
          exact ⟨rfl, belowI_drewN hbw _⟩
      · obtain rfl : k = n := by omega
        have hd := Lib.hid (show decide (l = l') = true by
          have : l = l' := same_of (by omega) (fun j hj => hbef.out j (by omega))
          simpa using this)
        go_wp2
        go_ret
        rw [hd.out]
        exact ⟨rfl, hbw⟩
  · have hne : ((n : Int) != (m : Int)) = true := by simp; omega
    have hd : decide (l = l') = false := by
      have : ¬ l = l' := fun e => hnm (by rw [← hlen, ← hlen', e])
      simpa using this
    rw [hd]
    clear hd hnm
    go_enter Tryz.func21, Tryz.ntmps21
    go_wp2
    go_ret
    exact ⟨rfl, Below.refl _ _⟩

end Go.Proofs.YtkpmfobmlaldfaaGreatDoor
