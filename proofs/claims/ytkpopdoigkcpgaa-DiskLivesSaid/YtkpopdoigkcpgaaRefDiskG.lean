/-
  The plain disk's Write by contract. Conditions: fewer than 2^46 bytes, fewer than 2^63 - 1 writes, bytes of a block apart.
-/
import Derived.Test.YtkpopdoigkcpgaaRefDiskF
import Derived.Test.YtkpopdoigkcpgaaApp
import Derived.Deep.RegionLaw
import Derived.Deep.AppendLies
import Derived.BigRegion
import Derived.Deep.RegionHeld3
namespace Go.Proofs.Ytkpopdoigkcpgaa
open Go.RowKit
set_option linter.unusedVariables false

theorem RB.touch {w w' : World} {B n : Nat} {A : Option Addr} {l : List Int} {F : Nat → Prop} (h : RB w B A n l) (ht : Touch F w w') (hB : B ≤ w.heap.size) (hA : 0 < n → ∀ a, A = some a → ¬ F a.block) : RB w' B A n l :=
  ⟨h.1, h.2.1, fun hn => by
    obtain ⟨b, off, e, hb, hc⟩ := h.2.2 hn
    refine ⟨b, off, e, hb, fun j hj => ?_⟩
    rw [World.cell?_of_block (w := w) (ht.block b (by omega) (hA hn _ e))]
    exact hc j hj⟩

/-- append of bytes onto nil: a new block, as one step of a region that draws. -/
theorem step_append_fresh {ops : Array Oper} {o : Oper} {a : Act} {w : World} {K : Act → World → Prop} {Q : Exit → Act → World → Prop} {E : Prop} (hgd : o.guard = none) (s x : Operand)
    (ho : o.op = .call { callee := .builtin .append, args := #[s, x], argTypes := #[45, 45] })
    (hs : a.eval s = .slice none 0 0) (B b off m c : Nat) (l : List Int) (hx : a.eval x = .slice (some ⟨b, off, none⟩) m c) (hr : RB w B (some ⟨b, off, none⟩) m l) (hm : 0 < m) (h63 : m ≤ 140737488355328)
    (h : ∀ g cap w', g = w.heap.size → RB w' w'.heap.size (some ⟨g, 0, none⟩) m l → m ≤ cap → Below w.heap.size w w' → K (a.put o.dst (.slice (some ⟨g, 0, none⟩) m cap)) w') :
    if Region.wanted o (yielded ops a.tmps) = true then Oper.wp Try.prog o a w K Q else E := by
  obtain ⟨i0, hi, hz0, hz1, hz2⟩ := info_parts info_u8
  refine step_append_lies w hgd s x 45 ho w.heap.size 5 i0 (.int .u8 0) 1 1 Try.underlying45 hi hz0 hz1 hz2 rfl (by decide) (.slice none 0 0) 0 [] hs (World.ownsRow_nil _ _ _ _) ⟨b, off, none⟩ m c (l.map (Value.int .u8)) hx (by simp [hr.len]) ?_ (oneCell_bytes l) hm (by unfold maxLen; omega) (by omega) (Nat.le_refl _) w.heap.size rfl ?_
  · intro j u hj
    obtain ⟨ad', e, hc⟩ := hr.src j u hj
    cases e
    exact hc
  · intro g cap w' h1 h2 h3 _
    have hg : g = w.heap.size := by
      rcases h3 with h3 | h3
      · simp [Value.ownBlock] at h3
      · exact h3
    simp only [Nat.zero_add, List.nil_append] at h1
    obtain ⟨A', c', e, hc', hr'⟩ := read_own h1 hr.bytes
    simp only [Value.slice.injEq] at e
    obtain ⟨rfl, _, rfl⟩ := e
    have := h g cap w' hg hr' hc' ((Below.refl _ w).grown h2 (Nat.le_refl _) (own_ge (World.ownsRow_nil w w.heap.size 5 1)))
    simpa using this

section
variable {w : World} {G : Nat → Prop} {x : Addr} {S : DS}

/-- What a write leaves behind. -/
def Wrote (w : World) (G : Nat → Prop) (x : Addr) (S' : DS) (w' : World) : Prop := ∃ G' : Nat → Prop, RefAt w' G' x S' ∧ Touch G w w' ∧ ∀ k, G' k → G k ∨ w.heap.size ≤ k
theorem RefAt.same (h : RefAt w G x S) : Wrote w G x S w := ⟨G, h, Touch.refl _ _, fun k hk => .inl hk⟩

set_option maxHeartbeats 1600000 in
theorem refWrite_no (h : RefAt w G x S) (i : Int) (A : Option Addr) (n c : Nat) (l : List Int) (hl : l.length = n) (hn : n ≤ 140737488355328) (hno : S.down = true ∨ ¬ (S.has i ∧ l.length = 256)) :
    Calls Try.prog 29 #[.pointer (some x), .int .i64 i, .slice A n c] w fun e w' => e = .returned (.int .i64 (S.writeE i l)) ∧ Wrote w G x (S.write i l) w' := by
  have hsame := h.same
  obtain ⟨gx, gl, rfl, h0, hok, _⟩ := h
  have c0 : w.cell? ⟨gx, 0, none⟩ = some (.slice (some ⟨gl, 0, none⟩) S.n S.n) := h0.cell (o := 0) (by decide)
  have c5 : w.cell? ⟨gx, 5, none⟩ = some (.bool S.down) := h0.cell (o := 5) (by decide)
  have hsz := hok.size
  unfold DS.writeE DS.write
  by_cases hd : S.down = true
  · rw [if_pos hd, if_pos hd]
    rw [hd] at c5
    have HS := Lib.hid hsame
    clear hd h0 hok hno hsame
    go_enter Try.func29, Try.ntmps29
    go_wp2
    go_ret
    exact ⟨rfl, HS.out⟩
  · rw [if_neg hd, if_neg hd]
    have hno' : ¬ (S.has i ∧ l.length = 256) := by
      rcases hno with h | h
      · exact absurd h hd
      · exact h
    rw [if_pos hno', if_pos hno']
    have hd' : S.down = false := by simpa using hd
    rw [hd'] at c5
    have HS := Lib.hid hsame
    have hcase : i < 0 ∨ (0 ≤ i ∧ (S.n : Int) ≤ i) ∨ (0 ≤ i ∧ i < (S.n : Int) ∧ (n : Int) ≠ 256) := by
      unfold DS.has at hno'
      omega
    clear hd h0 hok hno hno' hsame hd'
    rcases hcase with h | ⟨h, h'⟩ | ⟨h, h', h''⟩
    · go_enter Try.func29, Try.ntmps29
      go_wp2
      go_ret
      exact ⟨rfl, HS.out⟩
    · go_enter Try.func29, Try.ntmps29
      go_wp2
      go_ret
      exact ⟨rfl, HS.out⟩
    · have hne : ((n : Int) != 256) = true := by simpa using h''
      go_enter Try.func29, Try.ntmps29
      go_wp2
      go_ret
      exact ⟨rfl, HS.out⟩

theorem RefAt.downed (h : RefAt w G x S) : ∃ gx, x = ⟨gx, 0, none⟩ ∧ Wrote w G x { S with down := true } (w.setCell ⟨gx, 5, none⟩ (.bool true)) := by
  obtain ⟨gx, gl, rfl, h0, hok, ha⟩ := h
  refine ⟨gx, rfl, G, ⟨gx, gl, rfl, (h0.head 5 (.bool true)).congrHead (fun j hj => ?_), ⟨hok.size, hok.safeBytes, hok.lastBytes, hok.pendLt, hok.pendNodup, hok.same⟩, ha⟩, (Touch.refl G w).set h0.2.1 5 _, fun k hk => .inl hk⟩
  match j, hj with
  | 0, _ => rfl
  | 1, _ => rfl
  | 2, _ => rfl
  | 3, _ => rfl
  | 4, _ => rfl
  | 5, _ => rfl

set_option maxHeartbeats 1600000 in
theorem refWrite_blown (h : RefAt w G x S) (q : Nat) (A : Option Addr) (c : Nat) (l : List Int) (hl : l.length = 256) (hd : S.down = false) (hq : q < S.n) (ha : S.arm = some 0) :
    Calls Try.prog 29 #[.pointer (some x), .int .i64 (q : Int), .slice A 256 c] w fun e w' => e = .returned (.int .i64 (S.writeE q l)) ∧ Wrote w G x (S.write q l) w' := by
  have hd0 : ¬ S.down = true := by rw [hd]; decide
  have hh : ¬ ¬ (S.has (q : Int) ∧ l.length = 256) := fun h => h ⟨⟨by omega, by omega⟩, hl⟩
  have e1 : S.writeE (q : Int) l = 5 := by unfold DS.writeE; rw [if_neg hd0, if_neg hh, if_pos ha]
  have e2 : S.write (q : Int) l = { S with down := true } := by unfold DS.write; rw [if_neg hd0, if_neg hh, if_pos ha]
  rw [e1, e2]
  obtain ⟨gx', hx, hw⟩ := h.downed
  obtain ⟨gx, gl, rfl, h0, hok, _⟩ := h
  obtain rfl : gx = gx' := by cases hx; rfl
  have HW := Lib.hid hw
  have c0 : w.cell? ⟨gx, 0, none⟩ = some (.slice (some ⟨gl, 0, none⟩) S.n S.n) := h0.cell (o := 0) (by decide)
  have c3 : w.cell? ⟨gx, 3, none⟩ = some (.int .i64 (S.arm.getD 0 : Nat)) := h0.cell (o := 3) (by decide)
  have c4 : w.cell? ⟨gx, 4, none⟩ = some (.bool S.arm.isSome) := h0.cell (o := 4) (by decide)
  have c5 : w.cell? ⟨gx, 5, none⟩ = some (.bool S.down) := h0.cell (o := 5) (by decide)
  have f5 := h0.frozen 5
  rw [ha] at c3 c4
  rw [hd] at c5
  simp only [Option.getD_some, Option.isSome_some] at c3 c4
  have c3' : w.cell? ⟨gx, 3, none⟩ = some (.int .i64 0) := c3
  have hsz := hok.size
  have hq' : (q : Int) < (S.n : Int) := by omega
  clear h0 hok hw hx c3 hh e1 e2 hd0 hd ha
  go_enter Try.func29, Try.ntmps29
  go_wp2
  go_ret
  exact ⟨rfl, HW.out⟩

theorem Ref0.tail {W : World} {gx gl n q m : Nat} {hd : Nat → Value} {sf lf : Nat → List Int} {tf : Nat → Nat} (h : Ref0 W G gx gl hd n sf lf tf) (hq : q < n) (h0 : hd 0 = .slice (some ⟨gl, 0, none⟩) m m) :
    W.cell? ⟨gx, 0, none⟩ = some (.slice (some ⟨gl, 0, none⟩) m m) ∧ (∃ A k c, W.cell? ⟨gl, q * 3 + 1, none⟩ = some (.slice A k c)) ∧ W.frozen? ⟨gl, q * 3 + 1, none⟩ = false ∧ gx < W.heap.size ∧ gl < W.heap.size := by
  have c := h.cell (o := 0) (by decide)
  rw [h0] at c
  have hlt := h.lt
  obtain ⟨h1, h2, h3, h4, f, h5, h6, h7⟩ := h
  obtain ⟨_, hs, _⟩ := h6 q hq
  obtain ⟨A, k, c', e⟩ := hs.shape
  have z := h5.cell (i := q * 3 + 1) (by omega)
  rw [e] at z
  exact ⟨c, ⟨A, k, c', z⟩, h5.frozen _, hlt _ h2, hlt _ h3⟩
theorem far_cell {w : World} {gx b : Nat} (h : b ≠ gx) (o : Nat) (v : Value) (o' : Nat) : (w.setCell ⟨gx, o, none⟩ v).cell? ⟨b, o', none⟩ = w.cell? ⟨b, o', none⟩ := World.cell?_of_block (w := w) (Below.heap_setCell w ⟨gx, o, none⟩ v b h)
theorem below_undrew {W w' : World} (h : Below W.drew.heap.size W.drew w') : Below W.heap.size W w' := (Below.refl W.heap.size W).drew.trans h
/-- The end of a write: the new bytes' block is hung into its sector. -/
theorem wrote_end {W W' : World} {gx gl cap q : Nat} {l : List Int} {hd : Nat → Value} {tf : Nat → Nat} (hW : Ref0 W G gx gl hd S.n S.safe S.last tf) (ht : Touch G w W) (hok : S.Ok) (hq : q < S.n) (hl : l.length = 256 ∧ AllBytes l)
    (harm : (S.put q l).arm.getD 0 ≤ 9223372036854775807) (hhd : ∀ j, j < 6 → hd j = refHead gl (S.put q l) j) (htf : ∀ j, tf j = turnOf (S.put q l).pend j)
    (hb : Below W.heap.size W W') (hr : RB W' W'.heap.size (some ⟨W.heap.size, 0, none⟩) 256 l) (hc : 256 ≤ cap) :
    Wrote w G ⟨gx, 0, none⟩ (S.put q l) (W'.setCell ⟨gl, q * 3 + 1, none⟩ (.slice (some ⟨W.heap.size, 0, none⟩) 256 cap)) := by
  have hlt := hW.lt
  have hgx := hW.2.1
  have hgl := hW.2.2.1
  have hWlt : W.heap.size < W'.heap.size := by
    obtain ⟨b, off, e, hlt', _⟩ := hr.at_ (by decide)
    cases e
    exact hlt'
  have h1 : Ref0 W' (fun k => G k ∨ k = W.heap.size) gx gl hd S.n S.safe S.last tf := hW.grow hb (fun k hk => .inl hk) (fun k hk => by
    rcases hk with hk | rfl
    · exact Nat.lt_of_lt_of_le (hlt k hk) hb.size
    · exact hWlt)
  have hv : SecV W' (fun k => G k ∨ k = W.heap.size) gx gl (.slice (some ⟨W.heap.size, 0, none⟩) 256 cap) l := by
    obtain ⟨b, off, e, hlt', hcell⟩ := hr.at_ (by decide)
    cases e
    exact .inr ⟨_, 0, cap, rfl, hc, .inr rfl, fun e => by have := hlt _ hgx; omega, fun e => by have := hlt _ hgl; omega, hcell⟩
  have h2 := (h1.setLast hq hv).congrHead hhd
  refine ⟨fun k => G k ∨ k = W.heap.size, ⟨gx, gl, rfl, ?_, DS.put_ok hok hq hl, harm⟩, ?_, fun k hk => ?_⟩
  · exact h2.congr (fun j hj => ⟨rfl, rfl, htf j⟩)
  · exact (ht.trans ⟨hb.os, hb.tape, hb.output, hb.size, fun k hk _ => hb.block k hk⟩).set hgl _ _
  · rcases hk with hk | rfl
    · exact .inl hk
    · exact .inr ht.size
theorem Wrote.drew {S' : DS} {w' : World} (h : Wrote w G x S' w') : Wrote w G x S' w'.drew := by
  obtain ⟨G', h1, h2, h3⟩ := h
  exact ⟨G', h1.keep (fun _ _ => rfl), h2.drew, h3⟩

set_option maxRecDepth 100000 in
set_option maxHeartbeats 3200000 in
theorem refWrite_fn (h : RefAt w G x S) (q : Nat) (b off c B : Nat) (l : List Int) (hr : RB w B (some ⟨b, off, none⟩) 256 l) (hB : B ≤ w.heap.size) (hGb : ¬ G b) (hd : S.down = false) (hq : q < S.n) (hw : S.writes ≤ 9223372036854775806) (ha : S.arm = none) (hm : q ∉ S.pend) :
    Calls Try.prog 29 #[.pointer (some x), .int .i64 (q : Int), .slice (some ⟨b, off, none⟩) 256 c] w fun e w' => e = .returned (.int .i64 (S.writeE q l)) ∧ Wrote w G x (S.write q l) w' := by
  have hl := hr.len
  have hd0 : ¬ S.down = true := by rw [hd]; decide
  have hh : ¬ ¬ (S.has (q : Int) ∧ l.length = 256) := fun h => h ⟨⟨by omega, by omega⟩, hl⟩
  have ha0 : ¬ S.arm = some 0 := by rw [ha]; simp
  have e1 : S.writeE (q : Int) l = 0 := by unfold DS.writeE; rw [if_neg hd0, if_neg hh, if_neg ha0]
  have e2 : S.write (q : Int) l = S.put q l := by unfold DS.write; rw [if_neg hd0, if_neg hh, if_neg ha0, Int.toNat_natCast]
  rw [e1, e2]
  obtain ⟨gx, gl, rfl, h0, hok, harm⟩ := h
  have c0 : w.cell? ⟨gx, 0, none⟩ = some (.slice (some ⟨gl, 0, none⟩) S.n S.n) := h0.cell (o := 0) (by decide)
  have c1 : w.cell? ⟨gx, 1, none⟩ = some (.int .i64 (S.pend.length : Nat)) := h0.cell (o := 1) (by decide)
  have c2 : w.cell? ⟨gx, 2, none⟩ = some (.int .i64 (S.writes : Nat)) := h0.cell (o := 2) (by decide)
  have c3 : w.cell? ⟨gx, 3, none⟩ = some (.int .i64 (S.arm.getD 0 : Nat)) := h0.cell (o := 3) (by decide)
  have c4 : w.cell? ⟨gx, 4, none⟩ = some (.bool S.arm.isSome) := h0.cell (o := 4) (by decide)
  have c5 : w.cell? ⟨gx, 5, none⟩ = some (.bool S.down) := h0.cell (o := 5) (by decide)
  have f1 := h0.frozen 1
  have f2 := h0.frozen 2
  have f3 := h0.frozen 3
  rw [ha] at c3 c4
  rw [hd] at c5
  simp only [Option.getD_none, Option.isSome_none] at c3 c4
  have hsz := hok.size
  have hpl := hok.pend_len
  have hq' : (q : Int) < (S.n : Int) := by omega
  obtain ⟨hne, hgx, hgl, hrx, f, hrow, hsec, hglt⟩ := h0
  obtain ⟨hs0, ⟨Al, nl, cl, hlv⟩, htv⟩ := (hsec q hq).imp_right (And.imp_left SecV.shape)
  have z1 := hrow.cell (i := q * 3 + 1) (by omega)
  have z2 := hrow.cell (i := q * 3 + 2) (by omega)
  have g1 := hrow.frozen (q * 3 + 1)
  have g2 := hrow.frozen (q * 3 + 2)
  rw [hlv] at z1
  rw [htv] at z2
  have hH0 := Lib.hid (show Ref0 w G gx gl (refHead gl S) S.n S.safe S.last (turnOf S.pend) from ⟨hne, hgx, hgl, hrx, f, hrow, hsec, hglt⟩)
  clear hrow hsec hlv htv hrx hs0 hglt
  rw [turnOf_no hm] at z2
  have z2' : w.cell? ⟨gl, q * 3 + 2, none⟩ = some (.int .i64 0) := z2
  clear z2
  clear hd0 hh ha0 e1 e2
  go_enter Try.func29, Try.ntmps29
  have HW := Lib.hid (show Ref0 (((w.setCell ⟨gx, 2, none⟩ (.int .i64 (S.writes + 1))).setCell ⟨gx, 1, none⟩ (.int .i64 (S.pend.length + 1))).setCell ⟨gl, q * 3 + 2, none⟩ (.int .i64 (S.pend.length + 1))).drew G gx gl (fun j => if j = 1 then .int .i64 (S.pend.length + 1) else if j = 2 then .int .i64 (S.writes + 1) else refHead gl S j) S.n S.safe S.last (fun j => if j = q then S.pend.length + 1 else turnOf S.pend j) from ((((hH0.out.head 2 (.int .i64 (S.writes + 1))).head 1 (.int .i64 (S.pend.length + 1))).setTurn hq (S.pend.length + 1)).keep (fun _ _ => rfl)))
  have HT := Lib.hid (show Touch G w (((w.setCell ⟨gx, 2, none⟩ (.int .i64 (S.writes + 1))).setCell ⟨gx, 1, none⟩ (.int .i64 (S.pend.length + 1))).setCell ⟨gl, q * 3 + 2, none⟩ (.int .i64 (S.pend.length + 1))).drew from ((((Touch.refl G w).set hgx 2 _).set hgx 1 _).set hgl (q * 3 + 2) _).drew)
  have HR := Lib.hid (hr.touch HT.out hB (fun _ a ha hg => by cases ha; exact hGb hg))
  have HOK := Lib.hid hok
  clear hr hH0 hok
  go_wp2_with fail
  go_region
  obtain ⟨Y0, ⟨Aw, nw, cw, Z1⟩, G1, hgxW, hglW⟩ := HW.out.tail hq rfl
  clear c0 c1 c2 c3 c4 c5 f1 f2 f3 z1 g1 g2 z2'
  generalize (((w.setCell ⟨gx, 2, none⟩ (.int .i64 (S.writes + 1))).setCell ⟨gx, 1, none⟩ (.int .i64 (S.pend.length + 1))).setCell ⟨gl, q * 3 + 2, none⟩ (.int .i64 (S.pend.length + 1))).drew = W at HW HT HR Y0 Z1 G1 hgxW hglW ⊢
  go_wp2_with fail
  have HXX := Lib.hid (And.intro hl (And.intro hm (And.intro ha (And.intro hd harm))))
  clear hl hm ha hd harm
  go_region_held3 (fun w' => w'.cell? ⟨gx, 0, none⟩ = some (.slice (some ⟨gl, 0, none⟩) S.n S.n))
    (first | exact Y0 | exact y0' | exact (far_cell hne _ _ _).trans y0')
    ((refine step_append_fresh (by rfl) _ _ (by rfl) (by rfl) B b off 256 c l (by rfl) HR.out (by decide) (by decide) ?_; intro g cap w' hg hr' hc' hb'; have hg' : g = W.heap.size := hg; subst hg'; clear hg; have y0' := (hb'.cell (p := ⟨gx, 0, none⟩) hgxW).trans Y0; have z1' := (hb'.cell (p := ⟨gl, q * 3 + 1, none⟩) hglW).trans Z1; have g1' := (hb'.frozen (p := ⟨gl, q * 3 + 1, none⟩) hglW).trans G1))
  obtain ⟨hl, hm, ha, hd, harm⟩ := HXX.out
  have hpu : (S.put q l).pend = S.pend ++ [q] := if_neg hm
  have hE := Lib.hid (wrote_end HW.out HT.out HOK.out hq ⟨hl, HR.out.bytes⟩ (by show (S.arm.map (· - 1)).getD 0 ≤ _; rw [ha]; simp; try omega) (fun j hj => by
    match j, hj with
    | 0, _ => rfl
    | 1, _ => show Value.int .i64 ((S.pend.length : Nat) + 1) = .int .i64 ((S.put q l).pend.length : Nat); rw [hpu]; simp
    | 2, _ => rfl
    | 3, _ => show Value.int .i64 (S.arm.getD 0 : Nat) = .int .i64 ((S.arm.map (· - 1)).getD 0 : Nat); rw [ha]; simp
    | 4, _ => show Value.bool S.arm.isSome = .bool (S.arm.map (· - 1)).isSome; simp
    | 5, _ => rfl) (fun j => by rw [hpu]; exact (turnOf_add hm j).symm) (below_undrew hb') hr' hc')
  clear HW HT HR HOK hb' hr' y0' z1' g1' Y0 Z1 G1
  go_wp2
  go_ret
  exact ⟨rfl, hE.out⟩


set_option maxRecDepth 100000 in
set_option maxHeartbeats 3200000 in
theorem refWrite_fm (h : RefAt w G x S) (q : Nat) (b off c B : Nat) (l : List Int) (hr : RB w B (some ⟨b, off, none⟩) 256 l) (hB : B ≤ w.heap.size) (hGb : ¬ G b) (hd : S.down = false) (hq : q < S.n) (hw : S.writes ≤ 9223372036854775806) (ha : S.arm = none) (hm : q ∈ S.pend) :
    Calls Try.prog 29 #[.pointer (some x), .int .i64 (q : Int), .slice (some ⟨b, off, none⟩) 256 c] w fun e w' => e = .returned (.int .i64 (S.writeE q l)) ∧ Wrote w G x (S.write q l) w' := by
  have hl := hr.len
  have hd0 : ¬ S.down = true := by rw [hd]; decide
  have hh : ¬ ¬ (S.has (q : Int) ∧ l.length = 256) := fun h => h ⟨⟨by omega, by omega⟩, hl⟩
  have ha0 : ¬ S.arm = some 0 := by rw [ha]; simp
  have e1 : S.writeE (q : Int) l = 0 := by unfold DS.writeE; rw [if_neg hd0, if_neg hh, if_neg ha0]
  have e2 : S.write (q : Int) l = S.put q l := by unfold DS.write; rw [if_neg hd0, if_neg hh, if_neg ha0, Int.toNat_natCast]
  rw [e1, e2]
  obtain ⟨gx, gl, rfl, h0, hok, harm⟩ := h
  have c0 : w.cell? ⟨gx, 0, none⟩ = some (.slice (some ⟨gl, 0, none⟩) S.n S.n) := h0.cell (o := 0) (by decide)
  have c1 : w.cell? ⟨gx, 1, none⟩ = some (.int .i64 (S.pend.length : Nat)) := h0.cell (o := 1) (by decide)
  have c2 : w.cell? ⟨gx, 2, none⟩ = some (.int .i64 (S.writes : Nat)) := h0.cell (o := 2) (by decide)
  have c3 : w.cell? ⟨gx, 3, none⟩ = some (.int .i64 (S.arm.getD 0 : Nat)) := h0.cell (o := 3) (by decide)
  have c4 : w.cell? ⟨gx, 4, none⟩ = some (.bool S.arm.isSome) := h0.cell (o := 4) (by decide)
  have c5 : w.cell? ⟨gx, 5, none⟩ = some (.bool S.down) := h0.cell (o := 5) (by decide)
  have f1 := h0.frozen 1
  have f2 := h0.frozen 2
  have f3 := h0.frozen 3
  rw [ha] at c3 c4
  rw [hd] at c5
  simp only [Option.getD_none, Option.isSome_none] at c3 c4
  have hsz := hok.size
  have hpl := hok.pend_len
  have hq' : (q : Int) < (S.n : Int) := by omega
  obtain ⟨hne, hgx, hgl, hrx, f, hrow, hsec, hglt⟩ := h0
  obtain ⟨hs0, ⟨Al, nl, cl, hlv⟩, htv⟩ := (hsec q hq).imp_right (And.imp_left SecV.shape)
  have z1 := hrow.cell (i := q * 3 + 1) (by omega)
  have z2 := hrow.cell (i := q * 3 + 2) (by omega)
  have g1 := hrow.frozen (q * 3 + 1)
  have g2 := hrow.frozen (q * 3 + 2)
  rw [hlv] at z1
  rw [htv] at z2
  have hH0 := Lib.hid (show Ref0 w G gx gl (refHead gl S) S.n S.safe S.last (turnOf S.pend) from ⟨hne, hgx, hgl, hrx, f, hrow, hsec, hglt⟩)
  clear hrow hsec hlv htv hrx hs0 hglt
  obtain ⟨t, ht⟩ : ∃ t : Nat, turnOf S.pend q = t := ⟨_, rfl⟩
  have htp : 0 < t := by have := turnOf_pos.2 hm; omega
  have htn : ((t : Int) == 0) = false := by simp; omega
  rw [ht] at z2
  clear hd0 hh ha0 e1 e2
  go_enter Try.func29, Try.ntmps29
  have HW := Lib.hid (show Ref0 (w.setCell ⟨gx, 2, none⟩ (.int .i64 (S.writes + 1))) G gx gl (fun j => if j = 2 then .int .i64 (S.writes + 1) else refHead gl S j) S.n S.safe S.last (turnOf S.pend) from (hH0.out.head 2 (.int .i64 (S.writes + 1))))
  have HT := Lib.hid (show Touch G w (w.setCell ⟨gx, 2, none⟩ (.int .i64 (S.writes + 1))) from ((Touch.refl G w).set hgx 2 _))
  have HR := Lib.hid (hr.touch HT.out hB (fun _ a ha hg => by cases ha; exact hGb hg))
  have HOK := Lib.hid hok
  clear hr hH0 hok
  go_wp2_with fail
  obtain ⟨Y0, ⟨Aw, nw, cw, Z1⟩, G1, hgxW, hglW⟩ := HW.out.tail hq rfl
  clear c0 c1 c2 c3 c4 c5 f1 f2 f3 z1 g1 g2 z2
  generalize (w.setCell ⟨gx, 2, none⟩ (.int .i64 (S.writes + 1))) = W at HW HT HR Y0 Z1 G1 hgxW hglW ⊢
  have HXX := Lib.hid (And.intro hl (And.intro hm (And.intro ha (And.intro hd harm))))
  clear hl hm ha hd harm
  go_region_held3 (fun w' => w'.cell? ⟨gx, 0, none⟩ = some (.slice (some ⟨gl, 0, none⟩) S.n S.n))
    (first | exact Y0 | exact y0' | exact (far_cell hne _ _ _).trans y0')
    ((refine step_append_fresh (by rfl) _ _ (by rfl) (by rfl) B b off 256 c l (by rfl) HR.out (by decide) (by decide) ?_; intro g cap w' hg hr' hc' hb'; have hg' : g = W.heap.size := hg; subst hg'; clear hg; have y0' := (hb'.cell (p := ⟨gx, 0, none⟩) hgxW).trans Y0; have z1' := (hb'.cell (p := ⟨gl, q * 3 + 1, none⟩) hglW).trans Z1; have g1' := (hb'.frozen (p := ⟨gl, q * 3 + 1, none⟩) hglW).trans G1))
  obtain ⟨hl, hm, ha, hd, harm⟩ := HXX.out
  have hpu : (S.put q l).pend = S.pend := if_pos hm
  have hE := Lib.hid (wrote_end HW.out HT.out HOK.out hq ⟨hl, HR.out.bytes⟩ (by show (S.arm.map (· - 1)).getD 0 ≤ _; rw [ha]; simp; try omega) (fun j hj => by
    match j, hj with
    | 0, _ => rfl
    | 1, _ => show Value.int .i64 (S.pend.length : Nat) = .int .i64 ((S.put q l).pend.length : Nat); rw [hpu]
    | 2, _ => rfl
    | 3, _ => show Value.int .i64 (S.arm.getD 0 : Nat) = .int .i64 ((S.arm.map (· - 1)).getD 0 : Nat); rw [ha]; simp
    | 4, _ => show Value.bool S.arm.isSome = .bool (S.arm.map (· - 1)).isSome; simp
    | 5, _ => rfl) (fun j => by rw [hpu]) (below_undrew hb') hr' hc')
  clear HW HT HR HOK hb' hr' y0' z1' g1' Y0 Z1 G1
  go_wp2
  go_ret
  exact ⟨rfl, hE.out⟩


set_option maxRecDepth 100000 in
set_option maxHeartbeats 3200000 in
theorem refWrite_an (h : RefAt w G x S) (q : Nat) (b off c B : Nat) (l : List Int) (hr : RB w B (some ⟨b, off, none⟩) 256 l) (hB : B ≤ w.heap.size) (hGb : ¬ G b) (hd : S.down = false) (hq : q < S.n) (hw : S.writes ≤ 9223372036854775806) (k : Nat) (ha : S.arm = some (k + 1)) (hk : k + 1 ≤ 9223372036854775807) (hm : q ∉ S.pend) :
    Calls Try.prog 29 #[.pointer (some x), .int .i64 (q : Int), .slice (some ⟨b, off, none⟩) 256 c] w fun e w' => e = .returned (.int .i64 (S.writeE q l)) ∧ Wrote w G x (S.write q l) w' := by
  have hl := hr.len
  have hd0 : ¬ S.down = true := by rw [hd]; decide
  have hh : ¬ ¬ (S.has (q : Int) ∧ l.length = 256) := fun h => h ⟨⟨by omega, by omega⟩, hl⟩
  have ha0 : ¬ S.arm = some 0 := by rw [ha]; simp
  have e1 : S.writeE (q : Int) l = 0 := by unfold DS.writeE; rw [if_neg hd0, if_neg hh, if_neg ha0]
  have e2 : S.write (q : Int) l = S.put q l := by unfold DS.write; rw [if_neg hd0, if_neg hh, if_neg ha0, Int.toNat_natCast]
  rw [e1, e2]
  obtain ⟨gx, gl, rfl, h0, hok, harm⟩ := h
  have c0 : w.cell? ⟨gx, 0, none⟩ = some (.slice (some ⟨gl, 0, none⟩) S.n S.n) := h0.cell (o := 0) (by decide)
  have c1 : w.cell? ⟨gx, 1, none⟩ = some (.int .i64 (S.pend.length : Nat)) := h0.cell (o := 1) (by decide)
  have c2 : w.cell? ⟨gx, 2, none⟩ = some (.int .i64 (S.writes : Nat)) := h0.cell (o := 2) (by decide)
  have c3 : w.cell? ⟨gx, 3, none⟩ = some (.int .i64 (S.arm.getD 0 : Nat)) := h0.cell (o := 3) (by decide)
  have c4 : w.cell? ⟨gx, 4, none⟩ = some (.bool S.arm.isSome) := h0.cell (o := 4) (by decide)
  have c5 : w.cell? ⟨gx, 5, none⟩ = some (.bool S.down) := h0.cell (o := 5) (by decide)
  have f1 := h0.frozen 1
  have f2 := h0.frozen 2
  have f3 := h0.frozen 3
  rw [ha] at c3 c4
  rw [hd] at c5
  simp only [Option.getD_some, Option.isSome_some] at c3 c4
  have hsz := hok.size
  have hpl := hok.pend_len
  have hq' : (q : Int) < (S.n : Int) := by omega
  obtain ⟨hne, hgx, hgl, hrx, f, hrow, hsec, hglt⟩ := h0
  obtain ⟨hs0, ⟨Al, nl, cl, hlv⟩, htv⟩ := (hsec q hq).imp_right (And.imp_left SecV.shape)
  have z1 := hrow.cell (i := q * 3 + 1) (by omega)
  have z2 := hrow.cell (i := q * 3 + 2) (by omega)
  have g1 := hrow.frozen (q * 3 + 1)
  have g2 := hrow.frozen (q * 3 + 2)
  rw [hlv] at z1
  rw [htv] at z2
  have hH0 := Lib.hid (show Ref0 w G gx gl (refHead gl S) S.n S.safe S.last (turnOf S.pend) from ⟨hne, hgx, hgl, hrx, f, hrow, hsec, hglt⟩)
  clear hrow hsec hlv htv hrx hs0 hglt
  rw [turnOf_no hm] at z2
  have z2' : w.cell? ⟨gl, q * 3 + 2, none⟩ = some (.int .i64 0) := z2
  clear z2
  have hkz : (((k + 1 : Nat) : Int) == 0) = false := by simp; omega
  clear hd0 hh ha0 e1 e2
  go_enter Try.func29, Try.ntmps29
  have HW := Lib.hid (show Ref0 ((((w.setCell ⟨gx, 3, none⟩ (.int .i64 k)).setCell ⟨gx, 2, none⟩ (.int .i64 (S.writes + 1))).setCell ⟨gx, 1, none⟩ (.int .i64 (S.pend.length + 1))).setCell ⟨gl, q * 3 + 2, none⟩ (.int .i64 (S.pend.length + 1))).drew G gx gl (fun j => if j = 1 then .int .i64 (S.pend.length + 1) else if j = 2 then .int .i64 (S.writes + 1) else if j = 3 then .int .i64 k else refHead gl S j) S.n S.safe S.last (fun j => if j = q then S.pend.length + 1 else turnOf S.pend j) from (((((hH0.out.head 3 (.int .i64 k)).head 2 (.int .i64 (S.writes + 1))).head 1 (.int .i64 (S.pend.length + 1))).setTurn hq (S.pend.length + 1)).keep (fun _ _ => rfl)))
  have HT := Lib.hid (show Touch G w ((((w.setCell ⟨gx, 3, none⟩ (.int .i64 k)).setCell ⟨gx, 2, none⟩ (.int .i64 (S.writes + 1))).setCell ⟨gx, 1, none⟩ (.int .i64 (S.pend.length + 1))).setCell ⟨gl, q * 3 + 2, none⟩ (.int .i64 (S.pend.length + 1))).drew from (((((Touch.refl G w).set hgx 3 _).set hgx 2 _).set hgx 1 _).set hgl (q * 3 + 2) _).drew)
  have HR := Lib.hid (hr.touch HT.out hB (fun _ a ha hg => by cases ha; exact hGb hg))
  have HOK := Lib.hid hok
  clear hr hH0 hok
  go_wp2_with fail
  go_region
  obtain ⟨Y0, ⟨Aw, nw, cw, Z1⟩, G1, hgxW, hglW⟩ := HW.out.tail hq rfl
  clear c0 c1 c2 c3 c4 c5 f1 f2 f3 z1 g1 g2 z2'
  generalize ((((w.setCell ⟨gx, 3, none⟩ (.int .i64 k)).setCell ⟨gx, 2, none⟩ (.int .i64 (S.writes + 1))).setCell ⟨gx, 1, none⟩ (.int .i64 (S.pend.length + 1))).setCell ⟨gl, q * 3 + 2, none⟩ (.int .i64 (S.pend.length + 1))).drew = W at HW HT HR Y0 Z1 G1 hgxW hglW ⊢
  go_wp2_with fail
  have HXX := Lib.hid (And.intro hl (And.intro hm (And.intro ha (And.intro hd harm))))
  clear hl hm ha hd harm
  go_region_held3 (fun w' => w'.cell? ⟨gx, 0, none⟩ = some (.slice (some ⟨gl, 0, none⟩) S.n S.n))
    (first | exact Y0 | exact y0' | exact (far_cell hne _ _ _).trans y0')
    ((refine step_append_fresh (by rfl) _ _ (by rfl) (by rfl) B b off 256 c l (by rfl) HR.out (by decide) (by decide) ?_; intro g cap w' hg hr' hc' hb'; have hg' : g = W.heap.size := hg; subst hg'; clear hg; have y0' := (hb'.cell (p := ⟨gx, 0, none⟩) hgxW).trans Y0; have z1' := (hb'.cell (p := ⟨gl, q * 3 + 1, none⟩) hglW).trans Z1; have g1' := (hb'.frozen (p := ⟨gl, q * 3 + 1, none⟩) hglW).trans G1))
  obtain ⟨hl, hm, ha, hd, harm⟩ := HXX.out
  have hpu : (S.put q l).pend = S.pend ++ [q] := if_neg hm
  have hE := Lib.hid (wrote_end HW.out HT.out HOK.out hq ⟨hl, HR.out.bytes⟩ (by show (S.arm.map (· - 1)).getD 0 ≤ _; rw [ha]; simp; try omega) (fun j hj => by
    match j, hj with
    | 0, _ => rfl
    | 1, _ => show Value.int .i64 ((S.pend.length : Nat) + 1) = .int .i64 ((S.put q l).pend.length : Nat); rw [hpu]; simp
    | 2, _ => rfl
    | 3, _ => show Value.int .i64 (k : Nat) = .int .i64 ((S.arm.map (· - 1)).getD 0 : Nat); rw [ha]; simp
    | 4, _ => show Value.bool S.arm.isSome = .bool (S.arm.map (· - 1)).isSome; simp
    | 5, _ => rfl) (fun j => by rw [hpu]; exact (turnOf_add hm j).symm) (below_undrew hb') hr' hc')
  clear HW HT HR HOK hb' hr' y0' z1' g1' Y0 Z1 G1
  go_wp2
  go_ret
  exact ⟨rfl, hE.out⟩


set_option maxRecDepth 100000 in
set_option maxHeartbeats 3200000 in
theorem refWrite_am (h : RefAt w G x S) (q : Nat) (b off c B : Nat) (l : List Int) (hr : RB w B (some ⟨b, off, none⟩) 256 l) (hB : B ≤ w.heap.size) (hGb : ¬ G b) (hd : S.down = false) (hq : q < S.n) (hw : S.writes ≤ 9223372036854775806) (k : Nat) (ha : S.arm = some (k + 1)) (hk : k + 1 ≤ 9223372036854775807) (hm : q ∈ S.pend) :
    Calls Try.prog 29 #[.pointer (some x), .int .i64 (q : Int), .slice (some ⟨b, off, none⟩) 256 c] w fun e w' => e = .returned (.int .i64 (S.writeE q l)) ∧ Wrote w G x (S.write q l) w' := by
  have hl := hr.len
  have hd0 : ¬ S.down = true := by rw [hd]; decide
  have hh : ¬ ¬ (S.has (q : Int) ∧ l.length = 256) := fun h => h ⟨⟨by omega, by omega⟩, hl⟩
  have ha0 : ¬ S.arm = some 0 := by rw [ha]; simp
  have e1 : S.writeE (q : Int) l = 0 := by unfold DS.writeE; rw [if_neg hd0, if_neg hh, if_neg ha0]
  have e2 : S.write (q : Int) l = S.put q l := by unfold DS.write; rw [if_neg hd0, if_neg hh, if_neg ha0, Int.toNat_natCast]
  rw [e1, e2]
  obtain ⟨gx, gl, rfl, h0, hok, harm⟩ := h
  have c0 : w.cell? ⟨gx, 0, none⟩ = some (.slice (some ⟨gl, 0, none⟩) S.n S.n) := h0.cell (o := 0) (by decide)
  have c1 : w.cell? ⟨gx, 1, none⟩ = some (.int .i64 (S.pend.length : Nat)) := h0.cell (o := 1) (by decide)
  have c2 : w.cell? ⟨gx, 2, none⟩ = some (.int .i64 (S.writes : Nat)) := h0.cell (o := 2) (by decide)
  have c3 : w.cell? ⟨gx, 3, none⟩ = some (.int .i64 (S.arm.getD 0 : Nat)) := h0.cell (o := 3) (by decide)
  have c4 : w.cell? ⟨gx, 4, none⟩ = some (.bool S.arm.isSome) := h0.cell (o := 4) (by decide)
  have c5 : w.cell? ⟨gx, 5, none⟩ = some (.bool S.down) := h0.cell (o := 5) (by decide)
  have f1 := h0.frozen 1
  have f2 := h0.frozen 2
  have f3 := h0.frozen 3
  rw [ha] at c3 c4
  rw [hd] at c5
  simp only [Option.getD_some, Option.isSome_some] at c3 c4
  have hsz := hok.size
  have hpl := hok.pend_len
  have hq' : (q : Int) < (S.n : Int) := by omega
  obtain ⟨hne, hgx, hgl, hrx, f, hrow, hsec, hglt⟩ := h0
  obtain ⟨hs0, ⟨Al, nl, cl, hlv⟩, htv⟩ := (hsec q hq).imp_right (And.imp_left SecV.shape)
  have z1 := hrow.cell (i := q * 3 + 1) (by omega)
  have z2 := hrow.cell (i := q * 3 + 2) (by omega)
  have g1 := hrow.frozen (q * 3 + 1)
  have g2 := hrow.frozen (q * 3 + 2)
  rw [hlv] at z1
  rw [htv] at z2
  have hH0 := Lib.hid (show Ref0 w G gx gl (refHead gl S) S.n S.safe S.last (turnOf S.pend) from ⟨hne, hgx, hgl, hrx, f, hrow, hsec, hglt⟩)
  clear hrow hsec hlv htv hrx hs0 hglt
  obtain ⟨t, ht⟩ : ∃ t : Nat, turnOf S.pend q = t := ⟨_, rfl⟩
  have htp : 0 < t := by have := turnOf_pos.2 hm; omega
  have htn : ((t : Int) == 0) = false := by simp; omega
  rw [ht] at z2
  have hkz : (((k + 1 : Nat) : Int) == 0) = false := by simp; omega
  clear hd0 hh ha0 e1 e2
  go_enter Try.func29, Try.ntmps29
  have HW := Lib.hid (show Ref0 ((w.setCell ⟨gx, 3, none⟩ (.int .i64 k)).setCell ⟨gx, 2, none⟩ (.int .i64 (S.writes + 1))) G gx gl (fun j => if j = 2 then .int .i64 (S.writes + 1) else (if j = 3 then .int .i64 k else refHead gl S j)) S.n S.safe S.last (turnOf S.pend) from ((hH0.out.head 3 (.int .i64 k)).head 2 (.int .i64 (S.writes + 1))))
  have HT := Lib.hid (show Touch G w ((w.setCell ⟨gx, 3, none⟩ (.int .i64 k)).setCell ⟨gx, 2, none⟩ (.int .i64 (S.writes + 1))) from (((Touch.refl G w).set hgx 3 _).set hgx 2 _))
  have HR := Lib.hid (hr.touch HT.out hB (fun _ a ha hg => by cases ha; exact hGb hg))
  have HOK := Lib.hid hok
  clear hr hH0 hok
  go_wp2_with fail
  obtain ⟨Y0, ⟨Aw, nw, cw, Z1⟩, G1, hgxW, hglW⟩ := HW.out.tail hq rfl
  clear c0 c1 c2 c3 c4 c5 f1 f2 f3 z1 g1 g2 z2
  generalize ((w.setCell ⟨gx, 3, none⟩ (.int .i64 k)).setCell ⟨gx, 2, none⟩ (.int .i64 (S.writes + 1))) = W at HW HT HR Y0 Z1 G1 hgxW hglW ⊢
  have HXX := Lib.hid (And.intro hl (And.intro hm (And.intro ha (And.intro hd harm))))
  clear hl hm ha hd harm
  go_region_held3 (fun w' => w'.cell? ⟨gx, 0, none⟩ = some (.slice (some ⟨gl, 0, none⟩) S.n S.n))
    (first | exact Y0 | exact y0' | exact (far_cell hne _ _ _).trans y0')
    ((refine step_append_fresh (by rfl) _ _ (by rfl) (by rfl) B b off 256 c l (by rfl) HR.out (by decide) (by decide) ?_; intro g cap w' hg hr' hc' hb'; have hg' : g = W.heap.size := hg; subst hg'; clear hg; have y0' := (hb'.cell (p := ⟨gx, 0, none⟩) hgxW).trans Y0; have z1' := (hb'.cell (p := ⟨gl, q * 3 + 1, none⟩) hglW).trans Z1; have g1' := (hb'.frozen (p := ⟨gl, q * 3 + 1, none⟩) hglW).trans G1))
  obtain ⟨hl, hm, ha, hd, harm⟩ := HXX.out
  have hpu : (S.put q l).pend = S.pend := if_pos hm
  have hE := Lib.hid (wrote_end HW.out HT.out HOK.out hq ⟨hl, HR.out.bytes⟩ (by show (S.arm.map (· - 1)).getD 0 ≤ _; rw [ha]; simp; try omega) (fun j hj => by
    match j, hj with
    | 0, _ => rfl
    | 1, _ => show Value.int .i64 (S.pend.length : Nat) = .int .i64 ((S.put q l).pend.length : Nat); rw [hpu]
    | 2, _ => rfl
    | 3, _ => show Value.int .i64 (k : Nat) = .int .i64 ((S.arm.map (· - 1)).getD 0 : Nat); rw [ha]; simp
    | 4, _ => show Value.bool S.arm.isSome = .bool (S.arm.map (· - 1)).isSome; simp
    | 5, _ => rfl) (fun j => by rw [hpu]) (below_undrew hb') hr' hc')
  clear HW HT HR HOK hb' hr' y0' z1' g1' Y0 Z1 G1
  go_wp2
  go_ret
  exact ⟨rfl, hE.out⟩


/-- The plain disk's Write. -/
theorem refWrite_any (h : RefAt w G x S) (i : Int) (b off n c B : Nat) (l : List Int) (hr : RB w B (some ⟨b, off, none⟩) n l) (hB : B ≤ w.heap.size) (hGb : ¬ G b) (hn : n ≤ 140737488355328) (hw : S.writes ≤ 9223372036854775806) :
    Calls Try.prog 29 #[.pointer (some x), .int .i64 i, .slice (some ⟨b, off, none⟩) n c] w fun e w' => e = .returned (.int .i64 (S.writeE i l)) ∧ Wrote w G x (S.write i l) w' := by
  have hl := hr.len
  by_cases hno : S.down = true ∨ ¬ (S.has i ∧ l.length = 256)
  · exact refWrite_no h i _ n c l hl hn hno
  · have hd : S.down = false := by
      cases e : S.down
      · rfl
      · exact absurd (.inl e) hno
    have hh : S.has i ∧ l.length = 256 := by
      by_cases e : S.has i ∧ l.length = 256
      · exact e
      · exact absurd (.inr e) hno
    obtain ⟨q, rfl⟩ : ∃ q : Nat, i = q := Int.eq_ofNat_of_zero_le hh.1.1
    have hq : q < S.n := by have := hh.1.2; omega
    obtain rfl : n = 256 := by omega
    have harm : S.arm.getD 0 ≤ 9223372036854775807 := by obtain ⟨_, _, _, _, _, ha⟩ := h; exact ha
    cases ha : S.arm with
    | none =>
      by_cases hm : q ∈ S.pend
      · exact refWrite_fm h q b off c B l hr hB hGb hd hq hw ha hm
      · exact refWrite_fn h q b off c B l hr hB hGb hd hq hw ha hm
    | some k =>
      rw [ha] at harm
      cases k with
      | zero => exact refWrite_blown h q _ c l hh.2 hd hq ha
      | succ k =>
        by_cases hm : q ∈ S.pend
        · exact refWrite_am h q b off c B l hr hB hGb hd hq hw k ha harm hm
        · exact refWrite_an h q b off c B l hr hB hGb hd hq hw k ha harm hm
end

end Go.Proofs.Ytkpopdoigkcpgaa
