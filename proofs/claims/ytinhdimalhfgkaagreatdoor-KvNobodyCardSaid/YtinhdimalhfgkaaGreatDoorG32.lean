/-
  The texts AppB, DirE joined. Conditions: those that each part says at its head.
-/
import Derived.Test.YtinhdimalhfgkaaGreatDoorG1
import Derived.Test.YtinhdimalhfgkaaGreatDoorG3
import Derived.Test.YtinhdimalhfgkaaGreatDoorG20
import Derived.Test.YtinhdimalhfgkaaGreatDoorG26
import Derived.Test.YtinhdimalhfgkaaGreatDoorG18
import Derived.Lib.AppendZerosOnto
import Derived.Maps.AppendAt
import Derived.Deep.RegionHeld3

/-
  append of bytes as an equation and as a step of a region that draws; a number's bytes in new memory. Conditions: those that each says.
-/
namespace Go.Proofs.YtinhdimalhfgkaaGreatDoor
open Go.RowKit
set_option maxRecDepth 100000
set_option linter.unusedVariables false

theorem bkAppend_run {w : World} {base n B m c : Nat} {v : Value} {A : Option Addr} {xs l : List Int} (hown : w.ownsRow base 5 1 v n (xs.map (Value.int .u8))) (hr : RB w B A m l) (h63 : n + m ≤ 140737488355328) (hbase : base ≤ w.heap.size) (ty : TypeId) :
    ∃ v' w', (Builtin.append_ #[46, 46] ty #[v, .slice A m c]).run Tryz.prog w = .ok v' w' ∧ w'.ownsRow base 5 1 v' (n + m) ((xs ++ l).map (Value.int .u8)) ∧ w.grownBy w' v.ownBlock ∧ (v'.ownBlock = v.ownBlock ∨ v'.ownBlock = some w.heap.size) ∧ Below base w w' := by
  obtain ⟨i0, hi, hz0, hz1, hz2⟩ := info_parts info_u8
  rcases A with _ | ad
  · have hm : m = 0 := by
      rcases Nat.eq_zero_or_pos m with h0 | h0
      · exact h0
      · obtain ⟨b, off, e, _⟩ := hr.at_ h0; cases e
    subst hm
    have hl : l = [] := List.eq_nil_of_length_eq_zero hr.len
    subst hl
    exact ⟨v, w, run_append_none (P := Tryz.prog) (w := w) base 46 ty 5 i0 1 Tryz.underlying46 hi v n _ hown c, by simpa using hown, World.grownBy.refl w _, .inl rfl, Below.refl _ _⟩
  · obtain ⟨v', w', hrun, h1, h2, _, h3⟩ := run_append_own_at (P := Tryz.prog) w base 46 ty 5 i0 (.int .u8 0) 1 1 Tryz.underlying46 hi hz0 hz1 hz2 rfl (by decide) v n _ hown ad m c (l.map (Value.int .u8)) (by simp [hr.len]) (fun j u hj => by
      obtain ⟨ad', e, hc⟩ := hr.src j u hj
      cases e
      exact hc) (oneCell_bytes l) (by unfold maxLen; omega) (by omega) hbase
    exact ⟨v', w', hrun, by simpa using h1, h2, h3, (Below.refl base w).grown h2 hbase (own_ge hown)⟩

theorem step_append_run {P : Program} {ops : Array Oper} {o : Oper} {a : Act} {w : World} {K : Act → World → Prop} {Q : Exit → Act → World → Prop} {E : Prop} (hgd : o.guard = none) (s x : Operand) (t tn : TypeId)
    (ho : o.op = .call { callee := .builtin .append, args := #[s, x], argTypes := #[t, tn] }) (v u : Value) (hs : a.eval s = v) (hx : a.eval x = u) {v' : Value} {w' : World}
    (hrun : (Builtin.append_ #[t, tn] o.type #[v, u]).run P w = .ok v' w') (h : K (a.put o.dst v') w') :
    if Region.wanted o (yielded ops a.tmps) = true then Oper.wp P o a w K Q else E := by
  have hw : Region.wanted o (yielded ops a.tmps) = true := by simp [Region.wanted, hgd]
  rw [if_pos hw]
  exact Lib.wp_append_run w s x t tn ho v u hs hx _ _ hrun h

theorem step_append_bytes2 {w : World} {ops : Array Oper} {o : Oper} {a : Act} {K : Act → World → Prop} {Q : Exit → Act → World → Prop} {E : Prop} (hgd : o.guard = none) (s x : Operand)
    (ho : o.op = .call { callee := .builtin .append, args := #[s, x], argTypes := #[46, 46] })
    (base : Nat) (v : Value) (n : Nat) (xs : List Int) (hs : a.eval s = v) (hown : w.ownsRow base 5 1 v n (xs.map (Value.int .u8)))
    (B : Nat) (A : Option Addr) (m c : Nat) (l : List Int) (hx : a.eval x = .slice A m c) (hr : RB w B A m l) (h63 : n + m ≤ 140737488355328) (hbase : base ≤ w.heap.size)
    (h : ∀ v' w', w'.ownsRow base 5 1 v' (n + m) ((xs ++ l).map (Value.int .u8)) → Below base w w' → K (a.put o.dst v') w') :
    if Region.wanted o (yielded ops a.tmps) = true then Oper.wp Tryz.prog o a w K Q else E := by
  obtain ⟨v', w', hrun, h1, _, _, h4⟩ := bkAppend_run (c := c) hown hr h63 hbase o.type
  exact step_append_run hgd s x _ _ ho v _ hs hx hrun (h v' w' h1 h4)

theorem own_relen {w : World} {base e n k : Nat} {v : Value} {xs : List Value} (h : w.ownsRow base e 1 v n xs) (hk : xs.length = k) : w.ownsRow base e 1 v k xs := by
  obtain rfl : n = k := by have := h.1; omega
  exact h

theorem PutNil_any (x : Int) (k : Nat) (w : World) (hs : rightB x (k : Int) = true) (hk8 : k ≤ 8) (hx : -9223372036854775808 ≤ x ∧ x ≤ 9223372036854775807) :
    Calls Tryz.prog 192 #[.slice none 0 0, .int .i64 x, .int .i64 (k : Int)] w fun e w' => ∃ g, e = .returned (.slice (some ⟨g, 0, none⟩) k k) ∧ w.heap.size ≤ g ∧ w'.heap[g]? = some (.cells ((putB x k).map (Value.int .u8)).toArray 5 (0, 0)) ∧ Below w.heap.size w w' := by
  refine (Put_any none 0 0 0 [] x (k : Int) w RB.nil_ (Nat.zero_le _) (Nat.le_refl _) (by decide) hx.1 hx.2).mono ?_
  rintro e w' ⟨v, rfl, ⟨g, rfl, hg, hh⟩, hb⟩
  have e1 : putR [] x (k : Int) = putB x k := by
    unfold putR
    rw [if_pos hs, Int.toNat_natCast, List.nil_append]
  rw [e1] at hh
  exact ⟨g, by rw [e1, putB_length], hg, hh, hb⟩

theorem row_src {w : World} {g : Nat} {l : List Int} (h : w.heap[g]? = some (.cells (l.map (Value.int .u8)).toArray 5 (0, 0))) : ∀ j v, (l.map (Value.int .u8))[j]? = some v → w.cell? ((⟨g, 0, none⟩ : Addr).add j) = some v := by
  intro j v hv
  rw [add_none, Nat.zero_add, cell_of_row w g j _ _ (0, 0) h, List.getElem?_toArray]
  exact hv

end Go.Proofs.YtinhdimalhfgkaaGreatDoor

/-
  Contract of dir.Set: over any pager that answers as it is to. Conditions: the table that crc.Step reads holds what the program's text lays in it; a page that is loaded has 240 bytes.
-/
namespace Go.Proofs.YtinhdimalhfgkaaGreatDoor
open Go.RowKit
set_option maxRecDepth 100000
set_option linter.unusedVariables false

/-- What Set answers, and what is set then. -/
def dirSetR (S : DS) (L : List (Int × List Int)) (d : Int) (k : Nat) (l : List Int) (slot page : Int) : Int × List (Int × List Int) :=
  if okD d k slot = true ∧ (0 ≤ page ∧ page < 4294967296) then
    (if (getPg S L (ownD l slot)).2 = 0 then
      (setPgE S (ownD l slot) (splice (getPg S L (ownD l slot)).1 ((slot % 60).toNat * 4) (putB page 4)), setPg S L (ownD l slot) (splice (getPg S L (ownD l slot)).1 ((slot % 60).toNat * 4) (putB page 4)))
    else ((getPg S L (ownD l slot)).2, L))
  else (1, L)

theorem right4_iff (x : Int) : rightB x 4 = decide (0 ≤ x ∧ x < 4294967296) := by
  unfold rightB
  simp
section
variable {S : DS} {L : List (Int × List Int)} {d : Int} {k : Nat} {l : List Int} {slot page : Int}
theorem dirSet_no (h : ¬ (okD d k slot = true ∧ (0 ≤ page ∧ page < 4294967296))) : dirSetR S L d k l slot page = (1, L) := by
  unfold dirSetR
  rw [if_neg h]
theorem dirSet_err (h : okD d k slot = true ∧ (0 ≤ page ∧ page < 4294967296)) (he : ¬ (getPg S L (ownD l slot)).2 = 0) : dirSetR S L d k l slot page = ((getPg S L (ownD l slot)).2, L) := by
  unfold dirSetR
  rw [if_pos h, if_neg he]
theorem dirSet_ok (h : okD d k slot = true ∧ (0 ≤ page ∧ page < 4294967296)) (he : (getPg S L (ownD l slot)).2 = 0) : dirSetR S L d k l slot page = (setPgE S (ownD l slot) (splice (getPg S L (ownD l slot)).1 ((slot % 60).toNat * 4) (putB page 4)), setPg S L (ownD l slot) (splice (getPg S L (ownD l slot)).1 ((slot % 60).toNat * 4) (putB page 4))) := by
  unfold dirSetR
  rw [if_pos h, if_pos he]
end

section
variable {D : World → (Nat → Prop) → Addr → DS → Prop} {w w' : World} {F O : Nat → Prop} {p : Addr} {S : DS} {q r b : Nat} {seq : Int} {L : List (Int × List Int)}

set_option maxHeartbeats 6400000 in
theorem dirSet_any (api : DiskApi D) (h : PgAt D w F O p S q seq r b L) (ht : TabF w F) (hlen : ∀ i, (getPg S L i).2 = 0 → (getPg S L i).1.length = 240) (d f n c : Int) {A : Option Addr} {k cap B : Nat} {l : List Int} (slot page : Int) (hpg : -9223372036854775808 ≤ page ∧ page ≤ 9223372036854775807) (hr : RI w B A k l) (hB : B ≤ w.heap.size) (hk : k ≤ cap) (hkm : k ≤ maxLen) :
    Calls Tryz.prog 148 #[.pointer (some ⟨r, 0, none⟩), .agg #[.int .i64 d, .int .i64 f, .int .i64 n, .int .i64 c, .slice A k cap], .int .i64 slot, .int .i64 page] w fun e w' => e = .returned (.int .i64 (dirSetR S L d k l slot page).1) ∧ ∃ O', PgAt D w' F O' p S q seq r b (dirSetR S L d k l slot page).2 ∧ Touch O w w' ∧ ∀ k, O' k → O k ∨ w.heap.size ≤ k := by
  have hX : Below w.heap.size w (w.alloc (.cells #[.int .i64 d, .int .i64 f, .int .i64 n, .int .i64 c, .slice A k cap] 41)) := (Below.refl _ _).alloc (Nat.le_refl _) _
  have HX := Lib.hid hX
  have HBX := Lib.hid (DBox.new w d f n c (.slice A k cap))
  obtain ⟨z0, z1, z2, z3, z4, _⟩ := HBX.out.cells
  have HH := Lib.hid (dirHas_any d f n c A k cap slot (w.alloc (.cells #[.int .i64 d, .int .i64 f, .int .i64 n, .int .i64 c, .slice A k cap] 41)) hkm)
  have HPG := Lib.hid (And.intro h ht)
  have HR := Lib.hid hr
  have HLN := Lib.hid hlen
  have HRT := Lib.hid (fun w1 => Right_any page 4 w1)
  have HBT := Lib.hid (fun (w1 : World) (hb : Below w.heap.size w w1) => (⟨hb.os, hb.tape, hb.output, hb.size, fun k hk _ => hb.block k hk⟩ : Touch O w w1))
  rw [right4_iff] at HRT
  clear h ht hr hlen hX
  by_cases hok2 : okD d k slot = true ∧ (0 ≤ page ∧ page < 4294967296)
  case neg =>
    rw [dirSet_no hok2]
    cases hok : okD d k slot with
    | false =>
      rw [hok] at HH
      clear hok hok2
      go_enter Tryz.func148, Tryz.ntmps148
      go_wp2_with fail
      refine HH.out.mono ?_
      rintro e w1 ⟨rfl, hb1⟩
      have HE := Lib.hid (HX.out.trans (hb1.mono HX.out.size))
      clear hb1
      go_wp2
      go_ret
      exact ⟨rfl, O, HPG.out.1.below api HE.out, HBT.out _ HE.out, fun k hk => .inl hk⟩
    | true =>
      rw [hok] at HH
      rw [decide_eq_false (fun hh => hok2 ⟨hok, hh⟩)] at HRT
      clear hok hok2
      go_enter Tryz.func148, Tryz.ntmps148
      go_wp2_with fail
      refine HH.out.mono ?_
      rintro e w1 ⟨rfl, hb1⟩
      have HE := Lib.hid (HX.out.trans (hb1.mono HX.out.size))
      clear hb1
      go_wp2_with fail
      refine (HRT.out _).mono ?_
      rintro e w2 ⟨rfl, rfl⟩
      go_wp2
      go_ret
      exact ⟨rfl, O, HPG.out.1.below api HE.out, HBT.out _ HE.out, fun k hk => .inl hk⟩
  have hok := hok2.1
  rw [decide_eq_true hok2.2] at HRT
  rw [hok] at HH
  have HPF := Lib.hid (fun w1 (hb : Below w.heap.size w w1) => dirPlace_any d f n c (cap := cap) (HR.out.below (hb.mono hB)) (Nat.le_trans hB hb.size) hk hok)
  have HRG := Lib.hid (RI.range HR.out (slot / 60).toNat)
  by_cases he : (getPg S L (ownD l slot)).2 = 0
  case neg =>
    rw [dirSet_err hok2 he]
    have HG := Lib.hid (fun w2 (hb : Below w.heap.size w w2) => pget_any api (HPG.out.1.below api hb) (HPG.out.2.below hb) (ownD l slot) (RI.range HR.out _))
    generalize (getPg S L (ownD l slot)).2 = er at *
    generalize (getPg S L (ownD l slot)).1 = pg at *
    have k1 : (er != 0) = true := by simpa using he
    clear hok he hok2
    generalize ownD l slot = own at HG HPF
    generalize (slot % 60).toNat * 4 = at4 at HPF
    go_enter Tryz.func148, Tryz.ntmps148
    go_wp2_with fail
    refine HH.out.mono ?_
    rintro e w1 ⟨rfl, hb1⟩
    have HB1 := Lib.hid (HX.out.trans (hb1.mono HX.out.size))
    have HP := Lib.hid (HPF.out w1 HB1.out)
    obtain ⟨y0, y1, y2, y3, y4, _⟩ := (HBX.out.below hb1).cells
    clear hb1 z0 z1 z2 z3 z4
    go_wp2_with fail
    refine (HRT.out _).mono ?_
    rintro e w2 ⟨rfl, rfl⟩
    go_wp2_with fail
    refine HP.out.mono ?_
    rintro e w2 ⟨rfl, hb2⟩
    have HB2 := Lib.hid (HB1.out.trans (hb2.mono HB1.out.size))
    clear hb2 y0 y1 y2 y3 y4 HP
    go_wp2_with fail
    refine (HG.out w2 HB2.out).mono ?_
    rintro e w3 ⟨A3, n3, c3, rfl, hc3, hr3, hb3⟩
    have HB3 := Lib.hid (HB2.out.trans (hb3.mono HB2.out.size))
    clear hr3 hb3 hc3
    go_wp2
    go_ret
    exact ⟨rfl, O, HPG.out.1.below api HB3.out, HBT.out _ HB3.out, fun k hk => .inl hk⟩
  rw [dirSet_ok hok2 he]
  have hl := HLN.out _ he
  have HG := Lib.hid (fun w2 (hb : Below w.heap.size w w2) => pget_own api (HPG.out.1.below api hb) (HPG.out.2.below hb) (ownD l slot) (RI.range HR.out _))
  have HL := Lib.hid hl
  rw [he] at HG
  have HRB := Lib.hid (show rightB page ((4 : Nat) : Int) = true from (right4_iff page).trans (decide_eq_true hok2.2))
  obtain ⟨_, t, _, e60, _, ht60, _⟩ := okD_nat hok
  have hat4 : (slot % 60).toNat * 4 ≤ 236 := by omega
  have HOWR := Lib.hid (show -9223372036854775808 ≤ ownD l slot ∧ ownD l slot ≤ 9223372036854775807 from HRG.out)
  clear hok he hl hok2 e60 HRG ht60 t
  generalize (getPg S L (ownD l slot)).1 = pg at *
  generalize ownD l slot = own at HG HPF HOWR ⊢
  generalize (slot % 60).toNat * 4 = at4 at HPF hat4 ⊢
  have HNW := Lib.hid (show (splice pg at4 (putB page 4)).length = 240 from by rw [length_splice _ _ _ (by rw [putB_length, HL.out]; omega)]; exact HL.out)
  have hsp : ∀ (tl : List Value), splice ((pg.map (Value.int .u8)) ++ tl) at4 ((putB page 4).map (Value.int .u8)) = ((splice pg at4 (putB page 4)).map (Value.int .u8)) ++ tl := fun tl => splice_map (by rw [putB_length, HL.out]; omega)
  have HSP := Lib.hid hsp
  have hby : ∀ x ∈ splice pg at4 (putB page 4), x ∈ pg ∨ x ∈ putB page 4 := fun x hx => by
    unfold splice at hx
    rcases List.mem_append.1 hx with a | a
    · exact .inl (List.mem_of_mem_take a)
    · rcases List.mem_append.1 a with a | a
      · exact .inr a
      · exact .inl (List.mem_of_mem_drop a)
  have HBY := Lib.hid hby
  clear hsp hby
  generalize splice pg at4 (putB page 4) = npg at *
  go_enter Tryz.func148, Tryz.ntmps148
  go_wp2_with fail
  refine HH.out.mono ?_
  rintro e w1 ⟨rfl, hb1⟩
  have HB1 := Lib.hid (HX.out.trans (hb1.mono HX.out.size))
  have HP := Lib.hid (HPF.out w1 HB1.out)
  obtain ⟨y0, y1, y2, y3, y4, _⟩ := (HBX.out.below hb1).cells
  clear hb1 z0 z1 z2 z3 z4
  go_wp2_with fail
  refine (HRT.out _).mono ?_
  rintro e w2 ⟨rfl, rfl⟩
  go_wp2_with fail
  refine HP.out.mono ?_
  rintro e w2 ⟨rfl, hb2⟩
  have HB2 := Lib.hid (HB1.out.trans (hb2.mono HB1.out.size))
  clear hb2 y0 y1 y2 y3 y4 HP
  go_wp2_with fail
  refine (HG.out w2 HB2.out).mono ?_
  rintro e w3 ⟨A3, n3, c3, rfl, hc3, hm3, hb3⟩
  have HB3 := Lib.hid (HB2.out.trans (hb3.mono HB2.out.size))
  obtain rfl : n3 = 240 := by rw [← hm3.rb.len]; exact HL.out
  obtain ⟨g3, c3', e3, _, hg3⟩ := own_some hm3.1 (by decide)
  simp only [Value.slice.injEq] at e3
  obtain ⟨rfl, _, rfl⟩ := e3
  obtain ⟨tl, hblk⟩ := NowBlk.of_own hm3.1
  have HM3 := Lib.hid (And.intro hm3.2 hblk)
  have hg3w : g3 < w3.heap.size := (Array.getElem?_eq_some_iff.1 hblk).1
  have hg3l : w.heap.size ≤ g3 := Nat.le_trans HB2.out.size hg3
  have hP3 := Lib.hid (HPG.out.1.below api HB3.out)
  have hwl := HPG.out.1.lt
  have hne : ¬ (240 = at4) := by omega
  have hne2 : ¬ (c3 = at4) := by omega
  have hat240 : at4 ≤ 240 := by omega
  have hatc : at4 ≤ c3 := by omega
  have hI1 : (0 : Int) ≤ (at4 : Int) := by omega
  have hI2 : (at4 : Int) ≤ 240 := by omega
  clear hm3 hblk hb3
  go_wp2_with fail
  trace "REGION"
  go_region_held3 (fun w' => True) (exact trivial)
    (first
      | (go_at_call 192; refine (PutNil_any page 4 _ HRB.out (by decide) hpg).mono ?_; rintro e w4 ⟨g4, rfl, hg4, hh4, hb4⟩)
      | (refine step_copy_at (by rfl) _ _ 46 46 (by rfl) 5 Tryz.underlying46 size_u8' (some ⟨g3, at4, none⟩) ⟨g4, 0, none⟩ (240 - at4) (c3 - at4) 4 4 (by rfl) (by rfl) g3 at4 rfl (pg.map (Value.int .u8) ++ tl) 5 ((hb4.block g3 hg3w).trans HM3.out.2) ((putB page 4).map (Value.int .u8)) (by rw [List.length_map, putB_length]; exact (Nat.min_eq_left (by omega)).symm) (fun j v hj => row_src hh4 j v hj) (by rw [List.length_map, List.length_append, List.length_map, putB_length, HL.out]; omega) (oneCell_bytes _) ?_; intro w5 hblk5 htc5))
  have hb34 : Below w3.heap.size w3 w4 := (Below.refl _ _).drew.trans hb4
  have hP4 := hP3.out.below api hb34
  have hs4 := hb34.size
  have hnO : ∀ k, O k → k ≠ g3 := fun k hk e => by have := hwl k hk; omega
  have hP5 := hP4.keep api htc5.out.size (fun k hk => htc5.out.block k (Nat.lt_of_lt_of_le (hwl k hk) (Nat.le_trans HB3.out.size hs4)) (hnO k hk))
  have hrb5 : RB w5 w5.heap.size (some ⟨g3, 0, none⟩) 240 npg := by
    have e5 := hblk5.out
    rw [HSP.out tl] at e5
    exact NowBlk.rb ⟨tl, e5⟩ HNW.out (fun x hx => by
      rcases HBY.out x hx with a | a
      · exact HM3.out.1 x a
      · exact putB_bytes _ _ x a)
  have HS := Lib.hid (pset_any (c := c3) api hP5 own HOWR.out hrb5 (Nat.le_refl _) (by decide))
  have HT5 := Lib.hid (show Touch O w w5 from ⟨htc5.out.os.trans (hb34.os.trans HB3.out.os), htc5.out.tape.trans (hb34.tape.trans HB3.out.tape), htc5.out.output.trans (hb34.output.trans HB3.out.output), Nat.le_trans HB3.out.size (Nat.le_trans hs4 htc5.out.size), fun k hk _ => (htc5.out.block k (by have := HB3.out.size; omega) (fun e => by omega)).trans ((hb34.block k (Nat.lt_of_lt_of_le hk HB3.out.size)).trans (HB3.out.block k hk))⟩)
  clear hP3 hP4 hP5 hrb5 hblk5 htc5 hb34 hb4 hh4 hnO hs4 hg4
  go_wp2_with fail
  refine HS.out.mono ?_
  rintro e w6 ⟨rfl, O6, h6, t6, n6⟩
  have HE := Lib.hid (show ∃ O', PgAt D w6 F O' p S q seq r b (setPg S L own npg) ∧ Touch O w w6 ∧ ∀ k, O' k → O k ∨ w.heap.size ≤ k from ⟨O6, h6, ⟨t6.os.trans HT5.out.os, t6.tape.trans HT5.out.tape, t6.output.trans HT5.out.output, Nat.le_trans HT5.out.size t6.size, fun k hk hn => (t6.block k (Nat.lt_of_lt_of_le hk HT5.out.size) hn).trans (HT5.out.block k hk hn)⟩, fun k hk => (n6 k hk).imp id (fun a => Nat.le_trans HT5.out.size a)⟩)
  clear h6 t6 n6 HS
  go_wp2
  go_ret
  exact ⟨rfl, HE.out⟩
end
end Go.Proofs.YtinhdimalhfgkaaGreatDoor
