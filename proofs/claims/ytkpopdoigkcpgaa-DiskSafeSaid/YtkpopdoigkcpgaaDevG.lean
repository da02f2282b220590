/-
  The program's settle by contract, over any function value that answers which places are kept. No condition.
-/
import Derived.Test.YtkpopdoigkcpgaaDevF
namespace Go.Proofs.Ytkpopdoigkcpgaa
open Go.RowKit
set_option linter.unusedVariables false

/-- Whether a sector is kept by the first k places. -/
def Kept (S : DS) (K : Nat → Bool) (k j : Nat) : Prop := ∃ t, t < k ∧ S.pend[t]? = some j ∧ K t = true
open Classical in
/-- What is safe when the first k places were gone through. -/
noncomputable def safeK (S : DS) (K : Nat → Bool) (k : Nat) : Nat → List Int := fun j => if Kept S K k j then S.last j else S.safe j
theorem safeK_start (S : DS) (K : Nat → Bool) : safeK S K 0 = S.safe := by
  funext j
  unfold safeK
  rw [if_neg]
  rintro ⟨t, ht, _⟩
  omega
theorem safeK_skip {S : DS} {K : Nat → Bool} {k : Nat} (h : K k = false) : safeK S K (k + 1) = safeK S K k := by
  funext j
  unfold safeK
  have e : Kept S K (k + 1) j ↔ Kept S K k j := by
    constructor
    · rintro ⟨t, ht, h1, h2⟩
      refine ⟨t, ?_, h1, h2⟩
      rcases Nat.lt_or_ge t k with h' | h'
      · exact h'
      · obtain rfl : t = k := by omega
        rw [h] at h2; cases h2
    · rintro ⟨t, ht, h1, h2⟩
      exact ⟨t, by omega, h1, h2⟩
  by_cases hk : Kept S K k j
  · rw [if_pos hk, if_pos (e.2 hk)]
  · rw [if_neg hk, if_neg (fun h' => hk (e.1 h'))]
theorem safeK_hit {S : DS} {K : Nat → Bool} {k i : Nat} (hp : S.pend[k]? = some i) (h : K k = true) : safeK S K (k + 1) i = S.last i := by
  unfold safeK
  rw [if_pos ⟨k, by omega, hp, h⟩]
theorem safeK_other {S : DS} {K : Nat → Bool} {k i j : Nat} (hp : S.pend[k]? = some i) (hj : j ≠ i) : safeK S K (k + 1) j = safeK S K k j := by
  unfold safeK
  have e : Kept S K (k + 1) j ↔ Kept S K k j := by
    constructor
    · rintro ⟨t, ht, h1, h2⟩
      refine ⟨t, ?_, h1, h2⟩
      rcases Nat.lt_or_ge t k with h' | h'
      · exact h'
      · obtain rfl : t = k := by omega
        rw [hp] at h1
        injection h1 with h1
        exact absurd h1.symm hj
    · rintro ⟨t, ht, h1, h2⟩
      exact ⟨t, by omega, h1, h2⟩
  by_cases hk : Kept S K k j
  · rw [if_pos hk, if_pos (e.2 hk)]
  · rw [if_neg hk, if_neg (fun h' => hk (e.1 h'))]

/-- The disk when all places were gone through. -/
noncomputable def DS.settled (S : DS) (K : Nat → Bool) : DS := { S with safe := safeK S K S.pend.length, last := safeK S K S.pend.length, pend := [] }
theorem safeK_ok {S : DS} (h : S.Ok) (K : Nat → Bool) (k j : Nat) : (safeK S K k j).length = 256 ∧ AllBytes (safeK S K k j) := by
  unfold safeK
  split
  · exact h.lastBytes j
  · exact h.safeBytes j
theorem DS.settled_ok {S : DS} (h : S.Ok) (K : Nat → Bool) : (S.settled K).Ok :=
  ⟨h.size, safeK_ok h K _, safeK_ok h K _, (fun _ hm => by cases hm), List.nodup_nil, fun _ _ => rfl⟩

theorem wpList_clear {w : World} {ops : Array Oper} {rest : List Oper} {o : Oper} {a : Act} {Q : Exit → Act → World → Prop} (hgd : o.guard = none) (x : Operand) (t : TypeId)
    (ho : o.op = .call { callee := .builtin .clear, args := #[x], argTypes := #[t] }) (b n : Nat) (f : Int → Option Value) (e : TypeId) (hx : a.eval x = .map (some b)) (hm : IMap w b n f) (ht : Try.prog.underlying t = some (.map 3 e))
    (h : ∀ w', IMap w' b 0 (fun _ => none) → w.grownBy w' (some b) → wpList Try.prog ops Q rest (a.put o.dst (.tuple #[])) w') : wpList Try.prog ops Q (o :: rest) a w := by
  refine wpList_plain hgd fun K hK => ?_
  obtain ⟨w', hrun, h1, h2⟩ := hm.clear_ ht o.type
  unfold Oper.wp
  simp [execOp, ho, resolve, invoke, builtin, hx, hrun, Result.andThen]
  exact hK _ _ (h w' h1 h2)

section
variable {w : World} {F : Nat → Prop} {b sb fb : Nat} {left : Int} {pv : Value} {sN fN : Nat} {sf ff : Int → Option Value} {S : DS}

/-- What holds of the world between two rounds. -/
structure Mid (w : World) (F : Nat → Prop) (b sb fb : Nat) (left : Int) (pv : Value) (S : DS) (sN fN : Nat) (ff : Int → Option Value) (K : Nat → Bool) (J : World → Prop) (k : Nat) (wr : World) : Prop where
  row : wr.rowIs b 61 7 (diskRow left S.down S.n sb fb pv S.writes)
  rest : ∃ sf', Rest wr (FN F w) sb fb pv S.n (safeK S K k) S.last S.pend (sN + k) fN sf' ff
  touch : Touch F w wr
  inv : J wr

theorem Mid.below {K : Nat → Bool} {J : World → Prop} {k : Nat} {w1 w2 : World} (hJ : ∀ w1 w2 row, J w1 → w1.grownBy w2 row → (∀ x, row = some x → FN F w x) → J w2) (h : Mid w F b sb fb left pv S sN fN ff K J k w1) (hb : Below w1.heap.size w1 w2) : Mid w F b sb fb left pv S sN fN ff K J k w2 := by
  obtain ⟨sf', hr⟩ := h.rest
  exact ⟨h.row.of_block (hb.block _ h.row.lt), ⟨sf', hr.below hb⟩, h.touch.grow (grown_below hb) (fun x e => by cases e), hJ _ _ _ h.inv (grown_below hb) (fun x e => by cases e)⟩

theorem Mid.drew {K : Nat → Bool} {J : World → Prop} {k : Nat} {w1 : World} (hJ : ∀ w1 w2 row, J w1 → w1.grownBy w2 row → (∀ x, row = some x → FN F w x) → J w2) (h : Mid w F b sb fb left pv S sN fN ff K J k w1) : Mid w F b sb fb left pv S sN fN ff K J k w1.drew := by
  obtain ⟨sf', hr⟩ := h.rest
  exact ⟨h.row, ⟨sf', hr.keep (fun _ h _ => h) (fun _ _ _ _ => rfl)⟩, ⟨h.touch.os, h.touch.tape, h.touch.output, h.touch.size, h.touch.block⟩, hJ _ _ none h.inv ⟨rfl, rfl, rfl, Nat.le_refl _, fun _ _ _ => rfl⟩ (fun x e => by cases e)⟩

theorem Mid.skip {K : Nat → Bool} {J : World → Prop} {k : Nat} {w1 : World} (h : Mid w F b sb fb left pv S sN fN ff K J k w1) (hk : K k = false) : Mid w F b sb fb left pv S sN fN ff K J (k + 1) w1 := by
  obtain ⟨sf', hr⟩ := h.rest
  refine ⟨h.row, ⟨sf', ?_⟩, h.touch, h.inv⟩
  rw [safeK_skip hk]
  exact { hr with safeM := hr.safeM.mono (by omega) }

/-- A round that keeps: what its look-up and its store do. -/
theorem Mid.hit {K : Nat → Bool} {J : World → Prop} {k i : Nat} {w1 : World} (hJ : ∀ w1 w2 row, J w1 → w1.grownBy w2 row → (∀ x, row = some x → FN F w x) → J w2) (hFb : F b) (hok : S.Ok) (hdom : ∀ i : Nat, i < S.n → ((ff i).isSome = true ↔ i ∈ S.pend)) (hcnt : sN + fN ≤ S.writes ∧ S.pend.length ≤ fN ∧ S.writes ≤ 9223372036854775807)
    (h : Mid w F b sb fb left pv S sN fN ff K J k w1) (hk : K k = true) (hp : S.pend[k]? = some i) :
    ∃ v w2, (Instr.lookup 59 (.map (some fb)) (.int .i64 (i : Int)) false).run Try.prog w1 = .ok v w1 ∧ (Instr.mapUpdate 59 (.map (some sb)) (.int .i64 (i : Int)) v).run Try.prog w1 = .ok () w2 ∧ Hid (Mid w F b sb fb left pv S sN fN ff K J (k + 1) w2) := by
  obtain ⟨sf', hr⟩ := h.rest
  have hkl : k < S.pend.length := (List.getElem?_eq_some_iff.1 hp).1
  have him : i ∈ S.pend := List.mem_of_getElem? hp
  have hi := hok.pendLt i him
  have hsz := hok.size
  obtain ⟨v, hv⟩ := Option.isSome_iff_exists.1 ((hdom i hi).2 him)
  have q := hr.freshM.get Try.underlying59 (zero_slice w1) (i := (i : Int)) (by omega) hv
  obtain ⟨w2, hrun, hm, hg⟩ := hr.safeM.store Try.underlying59 (i := (i : Int)) (by unfold maxLen; omega) (by omega) v
  have hne : b ≠ sb := by
    obtain ⟨es, c, h1⟩ := hr.safeM.block
    obtain ⟨cs, h2, _⟩ := h.row
    intro e
    rw [e, h1] at h2
    cases h2
  refine ⟨v, w2, q, hrun, Lib.hid ⟨h.row.of_block (hg.block b h.row.lt (fun e => hne (by injection e))), ⟨fun j => if j = (i : Int) then some v else sf' j, ?_⟩, h.touch.grow hg (fun x e => by injection e with e; rw [← e]; exact hr.Fs), hJ _ _ _ h.inv hg (fun x e => by injection e with e; rw [← e]; exact hr.Fs)⟩⟩
  refine hr.safed hg hm (safe' := safeK S K (k + 1)) (fun j hj => ?_)
  by_cases e : j = i
  · subst e
    rw [if_pos rfl]
    right
    rw [safeK_hit hp hk]
    exact hr.freshC j hj v hv
  · rw [if_neg (by omega)]
    exact .inl ⟨rfl, safeK_other hp e⟩

/-- The end: the map of what was written last is cleared, the list emptied. -/
theorem Mid.fin {K : Nat → Bool} {J : World → Prop} {w1 w2 : World} {A : Option Addr} {m c : Nat} (hFb : F b) (hok : S.Ok) (harm : ArmIs left S.arm) (hcnt : sN + fN ≤ S.writes ∧ S.pend.length ≤ fN ∧ S.writes ≤ 9223372036854775807)
    (h : Mid w F b sb fb left (.slice A m c) S sN fN ff K J S.pend.length w1) (hm : IMap w2 fb 0 (fun _ => none)) (hg : w1.grownBy w2 (some fb)) (hA : A = none → m = 0 ∧ c = 0) :
    w2.cell? ⟨b, 5, none⟩ = some (.slice A m c) ∧ w2.frozen? ⟨b, 5, none⟩ = false ∧ Hid (After F w (w2.setCell ⟨b, 5, none⟩ (.slice A 0 c)) ⟨b, 0, none⟩ (S.settled K)) := by
  obtain ⟨sf', hr⟩ := h.rest
  have hne : b ≠ fb := by
    obtain ⟨es, c, h1⟩ := hr.freshM.block
    obtain ⟨cs, h2, _⟩ := h.row
    intro e
    rw [e, h1] at h2
    cases h2
  have hrow2 := h.row.of_block (hg.block b h.row.lt (fun e => hne (by injection e)))
  have hr2 := hr.freshed hg hm (last' := safeK S K S.pend.length) (fun i _ v hv => by cases hv)
  have hr3 : Rest w2 (FN F w) sb fb (.slice A 0 c) S.n (safeK S K S.pend.length) (safeK S K S.pend.length) [] (sN + S.pend.length) 0 sf' (fun _ => none) := hr2.emptied (by
    rcases A with _ | ad
    · obtain ⟨rfl, rfl⟩ := hA rfl
      exact .inl ⟨rfl, rfl⟩
    · exact .inr ⟨ad, m, c, rfl, rfl⟩)
  refine ⟨hrow2.cell (i := 5) (by decide), hrow2.frozen 5, Lib.hid ?_⟩
  refine After.mk' (S := S.settled K) ((hrow2.set 5 (.slice A 0 c)).congr (diskRow_set5 _ _ _ _ _ _ _ _)) (hr3.setCell hrow2 5 _) harm (DS.settled_ok hok K) (fun i _ => ?_) ⟨?_, Nat.zero_le _, hcnt.2.2⟩ (.inl hFb) ((h.touch.grow hg (fun x e => by injection e with e; rw [← e]; exact hr.Ff)).grow (grown_setCell w2 b 5 _) (fun x e => by injection e with e; rw [← e]; exact .inl hFb))
  · show (none : Option Value).isSome = true ↔ i ∈ ([] : List Nat)
    simp
  · show sN + S.pend.length + 0 ≤ S.writes
    omega
end

end Go.Proofs.Ytkpopdoigkcpgaa
