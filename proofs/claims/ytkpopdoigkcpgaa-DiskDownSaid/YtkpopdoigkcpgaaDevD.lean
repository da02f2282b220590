/-
  The program's Write by contract. Condition: fewer than 2^63 - 1 writes.
-/
import Derived.Test.YtkpopdoigkcpgaaDevC
import Derived.Maps.AppendAt
import Derived.Deep.RegionWith
namespace Go.Proofs.Ytkpopdoigkcpgaa
open Go.RowKit
set_option linter.unusedVariables false

theorem wpList_append_pend {w : World} {ops : Array Oper} {rest : List Oper} {o : Oper} {a : Act} {Q : Exit → Act → World → Prop} (hgd : o.guard = none) (s x : Operand)
    (ho : o.op = .call { callee := .builtin .append, args := #[s, x], argTypes := #[32, 32] })
    (v : Value) (n : Nat) (xs : List Int) (hs : a.eval s = v) (b : Nat) (z : Int) (T : TypeId) (hx : a.eval x = .slice (some ⟨b, 0, none⟩) 1 1)
    (hown : w.ownsRow 0 3 1 v n (xs.map (Value.int .i64))) (hb : w.heap[b]? = some (.cells #[.int .i64 z] T)) (h63 : n ≤ 8796093022207)
    (h : ∀ A' c' w', w'.ownsRow 0 3 1 (.slice A' (n + 1) c') (n + 1) ((xs ++ [z]).map (Value.int .i64)) → w.grownBy w' v.ownBlock → ((Value.slice A' (n + 1) c').ownBlock = v.ownBlock ∨ (Value.slice A' (n + 1) c').ownBlock = some w.heap.size) → wpList Try.prog ops Q rest (a.put o.dst (.slice A' (n + 1) c')) w') : wpList Try.prog ops Q (o :: rest) a w := by
  obtain ⟨i0, hi, hz0, hz1, hz2⟩ := info_parts info_int
  refine wpList_append_own_at w hgd s x 32 ho 0 3 i0 (.int .i64 0) 1 8 Try.underlying32 hi hz0 hz1 hz2 rfl (by decide) v n _ hs hown ⟨b, 0, none⟩ 1 1 [.int .i64 z] hx rfl (World.news_of_block (cs := #[.int .i64 z]) hb) (fun u hu => by obtain rfl := List.mem_singleton.1 hu; rfl) (by unfold maxLen; omega) (by omega) (Nat.zero_le _) ?_
  intro v' w' h1 h2 _ h4
  obtain ⟨A', c', rfl, _⟩ := int_own_shape h1
  exact h A' c' w' (by simpa using h1) h2 h4

section
variable {w w4 w5 : World} {F : Nat → Prop} {b sb fb : Nat} {left : Int} {pv : Value} {sN fN : Nat} {sf ff : Int → Option Value} {S : DS}

/-- The end of a write: the map's store and the count. -/
theorem write_end {pl : List Nat} {i : Nat} {l : List Int} {v : Value} (hok : S.Ok) (hd : S.down = false) (hi : i < S.n) (hl : l.length = 256 ∧ AllBytes l) (hpl : pl = if i ∈ S.pend then S.pend else S.pend ++ [i]) (hw : S.writes ≤ 9223372036854775806)
    (hrow : w4.rowIs b 61 7 (diskRow left false S.n sb fb pv S.writes)) (hrest : Rest w4 (FN F w) sb fb pv S.n S.safe S.last pl sN fN sf ff) (harm : ArmIs left (S.arm.map (· - 1))) (hdom : ∀ i : Nat, i < S.n → ((ff i).isSome = true ↔ i ∈ S.pend)) (hcnt : sN + fN ≤ S.writes ∧ S.pend.length ≤ fN) (hFb : F b) (ht : Touch F w w4)
    (hb5 : Below w4.heap.size w4 w5) (hown : w5.ownsRow w4.heap.size 5 1 v 256 (l.map (Value.int .u8))) :
    ∃ w6, (Instr.mapUpdate 59 (.map (some fb)) (.int .i64 (i : Int)) v).run Try.prog w5 = .ok () w6 ∧ w5.cell? ⟨b, 4, none⟩ = some (.map (some fb)) ∧ w6.cell? ⟨b, 6, none⟩ = some (.int .i64 (S.writes : Int)) ∧ w6.frozen? ⟨b, 6, none⟩ = false ∧
      Hid (After F w (w6.setCell ⟨b, 6, none⟩ (.int .i64 ((S.writes : Int) + 1))) ⟨b, 0, none⟩ (S.put i l)) := by
  have hrest5 := hrest.below hb5
  have hrow5 := hrow.of_block (hb5.block _ hrow.lt)
  have hsz := hok.size
  obtain ⟨w6, hrun, him, hgr⟩ := hrest5.freshM.store Try.underlying59 (i := (i : Int)) (by unfold maxLen; omega) (by omega) v
  have hne : b ≠ fb := by
    obtain ⟨es, c, h1⟩ := hrest5.freshM.block
    obtain ⟨cs, h2, _⟩ := hrow5
    intro e
    rw [e, h1] at h2
    cases h2
  have hrow6 := hrow5.of_block (hgr.block b hrow5.lt (fun e => hne (by injection e)))
  have hC : Cont w5 (FN F w) v l := Cont.of_own hown (fun k hk => .inr (Nat.le_trans ht.size hk))
  have hrest6 : Rest w6 (FN F w) sb fb pv S.n S.safe (S.put i l).last pl sN (fN + 1) sf _ := hrest5.freshed hgr him (last' := (S.put i l).last) (fun j hj u hu => by
    have e1 : (S.put i l).last j = if j = i then l else S.last j := rfl
    by_cases e : j = i
    · subst e
      rw [if_pos rfl] at e1
      rw [if_pos rfl] at hu
      obtain rfl : v = u := by injection hu
      exact .inr (by rw [e1]; exact hC)
    · rw [if_neg e] at e1
      rw [if_neg (by omega)] at hu
      exact .inl ⟨hu, e1⟩)
  have hputok : (S.put i l).Ok := DS.put_ok hok hi hl
  have hpl' : pl = (S.put i l).pend := hpl
  refine ⟨w6, hrun, hrow5.cell (i := 4) (by decide), hrow6.cell (i := 6) (by decide), hrow6.frozen 6, Lib.hid ?_⟩
  have hrow7 := (hrow6.set 6 (.int .i64 ((S.writes : Int) + 1))).congr (diskRow_set6 _ _ _ _ _ _ _ (S.writes + 1))
  have ht4 := ht.grow (grown_below hb5) (fun x e => by cases e)
  have ht6 := ht4.grow hgr (fun x e => by injection e with e; rw [← e]; exact hrest.Ff)
  have ht7 := ht6.grow (grown_setCell w6 b 6 (.int .i64 ((S.writes : Int) + 1))) (fun x e => by injection e with e; rw [← e]; exact .inl hFb)
  rw [hpl'] at hrest6
  refine After.mk' (S := S.put i l) (left := left) ?_ (hrest6.setCell hrow6 6 _) harm hputok (fun j hj => ?_) ⟨?_, ?_, ?_⟩ (.inl hFb) ht7
  · have e1 : (S.put i l).down = false := hd
    rw [e1]
    exact hrow7
  · show (if (j : Int) = (i : Int) then some v else ff j).isSome = true ↔ j ∈ (if i ∈ S.pend then S.pend else S.pend ++ [i])
    have hdj := hdom j hj
    by_cases e : j = i
    · subst e
      rw [if_pos rfl]
      by_cases hm : j ∈ S.pend <;> simp [hm]
    · rw [if_neg (by omega), hdj]
      by_cases hm : i ∈ S.pend <;> simp [hm, e]
  · show sN + (fN + 1) ≤ S.writes + 1
    omega
  · show (if i ∈ S.pend then S.pend else S.pend ++ [i]).length ≤ fN + 1
    split
    · omega
    · rw [List.length_append]; simp; omega
  · show S.writes + 1 ≤ 9223372036854775807
    omega

/-- The fuse lets a write through. -/
theorem blows_go (hrow : w.rowIs b 61 7 (diskRow left false S.n sb fb pv S.writes)) (harm : ArmIs left S.arm) (hne : S.arm ≠ some 0) :
    Calls Try.prog 38 #[.pointer (some ⟨b, 0, none⟩)] w fun e w' => ∃ left', e = .returned (.bool false) ∧ w'.rowIs b 61 7 (diskRow left' false S.n sb fb pv S.writes) ∧ ArmIs left' (S.arm.map (· - 1)) ∧ w.grownBy w' (some b) ∧ w'.heap.size = w.heap.size := by
  have c0 : w.cell? ⟨b, 0, none⟩ = some (.int .i64 left) := hrow.cell (i := 0) (by decide)
  have c1 : w.cell? ⟨b, 1, none⟩ = some (.bool false) := hrow.cell (i := 1) (by decide)
  obtain ⟨hr, h⟩ := harm
  rcases h with ⟨hl, hn⟩ | ⟨k, hk, ha⟩
  · refine (blows_none hl c0 c1).mono ?_
    rintro e w' ⟨rfl, rfl⟩
    exact ⟨left, rfl, hrow, ⟨hr, .inl ⟨hl, by rw [hn]; rfl⟩⟩, (World.grownBy.refl _ _), rfl⟩
  · rcases k with _ | k
    · exact absurd ha hne
    · have hk' : left = (k : Int) + 1 := by rw [hk]; omega
      rw [hk'] at c0
      refine (blows_less (by omega) c0 c1 (hrow.frozen 0)).mono ?_
      rintro e w' ⟨rfl, rfl⟩
      exact ⟨k, rfl, (hrow.set 0 (.int .i64 (k : Int))).congr (diskRow_set0 _ _ _ _ _ _ _ _), ⟨by omega, .inr ⟨k, rfl, by rw [ha]; rfl⟩⟩, grown_setCell w b 0 _, by simp⟩
end

theorem writeE_yes {S : DS} {i : Nat} {l : List Int} (hd : S.down = false) (hi : i < S.n) (hl : l.length = 256) (ha : S.arm ≠ some 0) : S.writeE i l = 0 ∧ S.write i l = S.put i l := by
  have h : S.has (i : Int) := ⟨by omega, by omega⟩
  exact ⟨by simp [DS.writeE, hd, h, hl, ha], by simp [DS.write, hd, h, hl, ha]⟩
theorem writeE_blown {S : DS} {i : Nat} {l : List Int} (hd : S.down = false) (hi : i < S.n) (hl : l.length = 256) (ha : S.arm = some 0) : S.writeE i l = 5 ∧ S.write i l = { S with down := true } := by
  have h : S.has (i : Int) := ⟨by omega, by omega⟩
  exact ⟨by simp [DS.writeE, hd, h, hl, ha], by simp [DS.write, hd, h, hl, ha]⟩
theorem writeE_no {S : DS} {i : Int} {l : List Int} (hd : S.down = false) (h : ¬ (S.has i ∧ l.length = 256)) : S.writeE i l = 1 ∧ S.write i l = S := by
  exact ⟨by simp only [DS.writeE, hd]; rw [if_neg (by simp), if_pos h], by simp only [DS.write, hd]; rw [if_neg (by simp), if_pos h]⟩
theorem writeE_down {S : DS} {i : Int} {l : List Int} (hd : S.down = true) : S.writeE i l = 5 ∧ S.write i l = S := ⟨by simp [DS.writeE, hd], by simp [DS.write, hd]⟩

theorem After.same {F : Nat → Prop} {w : World} {p : Addr} {S : DS} (h : DAt w F p S) : After F w w p S := ⟨F, h, Touch.refl _ _, fun k hk => .inl hk⟩

end Go.Proofs.Ytkpopdoigkcpgaa
