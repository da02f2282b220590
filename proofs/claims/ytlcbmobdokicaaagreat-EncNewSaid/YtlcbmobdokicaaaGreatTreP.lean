/-
  The texts NodA, TreP joined. Conditions: those that each part says at its head.
-/
import Derived.Test.YtlcbmobdokicaaaGreatStru
import Derived.Test.YtlcbmobdokicaaaGreatRecA
import Derived.Test.YtlcbmobdokicaaaGreatRecD
import Derived.BigQuiet
import Derived.Laws.StructEq
import Derived.Test.YtlcbmobdokicaaaGreatRecG
import Derived.Test.YtlcbmobdokicaaaGreatNumsP
import Derived.Test.YtlcbmobdokicaaaGreatSeqP

/-
  Nodes as plain values: their cells, a pair that is one, slices of them as they lie in memory and as the statements open them; two of them compared. No condition.
-/
namespace Go.Proofs.YtlcbmobdokicaaaGreat
open Go.RowKit Go.Maps
set_option maxRecDepth 100000
set_option linter.unusedVariables false

structure Nd where
  y : Int
  i : Int
  p : Int
  f : Int
  o : Int
  ab : Bool
  li : Int
  pr : Int
  en : Int
  ex : Int
  la : Int
  ca : Int
def ndV (x : Nd) : List Value := [.int .i64 x.y, .int .i64 x.i, .int .i64 x.p, .int .i64 x.f, .int .i64 x.o, .bool x.ab, .int .i64 x.li, .int .i64 x.pr, .int .i64 x.en, .int .i64 x.ex, .int .i64 x.la, .int .i64 x.ca]
def NdOk (x : Nd) : Prop := In64 [x.y, x.i, x.p, x.f, x.o, x.li, x.pr, x.en, x.ex, x.la, x.ca]
def NdE : Enc Nd := ⟨ndV, 12, NdOk, fun _ => rfl, by decide, fun x u hu => by
  unfold ndV at hu
  simp only [List.mem_cons, List.not_mem_nil, or_false] at hu
  rcases hu with rfl | rfl | rfl | rfl | rfl | rfl | rfl | rfl | rfl | rfl | rfl | rfl <;> rfl⟩
theorem info_node : (Tryz.prog.info? 41).map (fun i => (i.zero, i.size, i.bytes)) = some (some (.agg #[.int .i64 0, .int .i64 0, .int .i64 0, .int .i64 0, .int .i64 0, .bool false, .int .i64 0, .int .i64 0, .int .i64 0, .int .i64 0, .int .i64 0, .int .i64 0]), 12, 96) := by kernel_rfl
theorem NdT : NdE.Ty 22 41 := by
  obtain ⟨i0, hi, hz0, hz1, hz2⟩ := info_parts info_node
  exact ⟨Tryz.underlying22, i0, _, hi, hz0, hz1, by omega, rfl⟩
theorem open_nds {H : Type} {enc : TypeId × Value → H} {w : World} {fuel : Nat} {cs : List Value} {x : DataW H × List MemPlace} (h : DataW.trod enc Tryz.prog w 0 (fun _ => true) true fuel 22 cs = some x) :
    cs = [.slice none 0 0] ∨ ∃ (a : Addr) (len cap : Nat) (ls : List Nd), cs = [.slice (some a) len cap] ∧ len ≤ cap ∧ cap ≤ maxLen ∧ NdE.R w w.heap.size (some a) len ls :=
  Enc.open_rows (E := NdE) (⟨0, 0, 0, 0, 0, false, 0, 0, 0, 0, 0, 0⟩ : Nd) Tryz.underlying22 cells_node (fun n ys y hy hl => by
    obtain ⟨a0, a1, a2, a3, a4, a5, a6, a7, a8, a9, a10, a11, rfl, hok⟩ := open_node hy hl
    exact ⟨⟨a0, a1, a2, a3, a4, a5, a6, a7, a8, a9, a10, a11⟩, hok, rfl⟩) h
/-- A node's cells, one by one. -/
theorem ndAt {w : World} {b off : Nat} {x : Nd} (h : NdE.At w b off x) : w.cell? ⟨b, off, none⟩ = some (.int .i64 x.y) ∧ w.cell? ⟨b, off + 1, none⟩ = some (.int .i64 x.i) ∧ w.cell? ⟨b, off + 2, none⟩ = some (.int .i64 x.p) ∧ w.cell? ⟨b, off + 3, none⟩ = some (.int .i64 x.f) ∧ w.cell? ⟨b, off + 4, none⟩ = some (.int .i64 x.o) ∧ w.cell? ⟨b, off + 5, none⟩ = some (.bool x.ab) ∧ w.cell? ⟨b, off + 6, none⟩ = some (.int .i64 x.li) ∧ w.cell? ⟨b, off + 7, none⟩ = some (.int .i64 x.pr) ∧ w.cell? ⟨b, off + 8, none⟩ = some (.int .i64 x.en) ∧ w.cell? ⟨b, off + 9, none⟩ = some (.int .i64 x.ex) ∧ w.cell? ⟨b, off + 10, none⟩ = some (.int .i64 x.la) ∧ w.cell? ⟨b, off + 11, none⟩ = some (.int .i64 x.ca) :=
  ⟨h 0 (by decide), h 1 (by decide), h 2 (by decide), h 3 (by decide), h 4 (by decide), h 5 (by decide), h 6 (by decide), h 7 (by decide), h 8 (by decide), h 9 (by decide), h 10 (by decide), h 11 (by decide)⟩
/-- The node of a pair's numbers. -/
def ndOf (r : List Int × List Int) : Nd := ⟨r.1[0]?.getD 0, r.1[1]?.getD 0, r.2[0]?.getD 0, r.2[1]?.getD 0, r.2[2]?.getD 0, r.2[3]?.getD 0 != 0, r.2[4]?.getD 0, r.2[5]?.getD 0, r.2[6]?.getD 0, r.2[7]?.getD 0, r.2[8]?.getD 0, r.2[9]?.getD 0⟩
def ndNil : Nd := ⟨0, 0, 0, 0, 0, false, 0, 0, 0, 0, 0, 0⟩
def ndK (x : KV) : Option Nd := (numsR x 78 2 10).map ndOf
def ndO (o : Option Nd) : Nd := o.getD ndNil
theorem nodeV_is (x : KV) : nodeV (numsR x 78 2 10) = .agg (ndV (ndO (ndK x))).toArray := by
  unfold ndK
  cases numsR x 78 2 10 with
  | none => rfl
  | some r => rfl
theorem ndK_some (x : KV) : (numsR x 78 2 10).isSome = (ndK x).isSome := by
  unfold ndK
  cases numsR x 78 2 10 <;> rfl
theorem nd_ext {x y : Nd} (h0 : x.y = y.y) (h1 : x.i = y.i) (h2 : x.p = y.p) (h3 : x.f = y.f) (h4 : x.o = y.o) (h5 : x.ab = y.ab) (h6 : x.li = y.li) (h7 : x.pr = y.pr) (h8 : x.en = y.en) (h9 : x.ex = y.ex) (h10 : x.la = y.la) (h11 : x.ca = y.ca) : x = y := by
  cases x; cases y; simp_all
theorem nd_all (x y : Nd) : (x = y) ↔ x.y = y.y ∧ x.i = y.i ∧ x.p = y.p ∧ x.f = y.f ∧ x.o = y.o ∧ x.ab = y.ab ∧ x.li = y.li ∧ x.pr = y.pr ∧ x.en = y.en ∧ x.ex = y.ex ∧ x.la = y.la ∧ x.ca = y.ca :=
  ⟨fun h => by rw [h]; exact ⟨rfl, rfl, rfl, rfl, rfl, rfl, rfl, rfl, rfl, rfl, rfl, rfl⟩, fun ⟨h0, h1, h2, h3, h4, h5, h6, h7, h8, h9, h10, h11⟩ => nd_ext h0 h1 h2 h3 h4 h5 h6 h7 h8 h9 h10 h11⟩
instance ndDec : DecidableEq Nd := fun x y => decidable_of_iff _ (nd_all x y).symm
/-- Two nodes compared, as the program compares them. -/
theorem same_node (x y : Nd) (W : World) : (Op.equalIn 10000 41 (.agg (ndV x).toArray) (.agg (ndV y).toArray)).run Tryz.prog W = .ok (decide (x = y)) W := by
  have u3 := Tryz.underlying3
  have a3 := Tryz.isAgg3
  have z3 := Tryz.sizeOf3
  have u4 := Tryz.underlying4
  have a4 := Tryz.isAgg4
  have z4 := Tryz.sizeOf4
  have hS : Tryz.prog.underlying 41 = some (.struct (Tryz.prog.fieldsOf 41)) := by kernel_rfl
  have hp : Tryz.prog.stoodInHeld 41 = false := by kernel_rfl
  obtain ⟨a0, a1, a2, a3, a4, a5, a6, a7, a8, a9, a10, a11⟩ := x
  obtain ⟨b0, b1, b2, b3, b4, b5, b6, b7, b8, b9, b10, b11⟩ := y
  have hd : decide ((⟨a0, a1, a2, a3, a4, a5, a6, a7, a8, a9, a10, a11⟩ : Nd) = ⟨b0, b1, b2, b3, b4, b5, b6, b7, b8, b9, b10, b11⟩) = (a0 == b0 && a1 == b1 && a2 == b2 && a3 == b3 && a4 == b4 && a5 == b5 && a6 == b6 && a7 == b7 && a8 == b8 && a9 == b9 && a10 == b10 && a11 == b11) := by
    rw [Bool.eq_iff_iff, decide_eq_true_iff, nd_all]
    simp only [Bool.and_eq_true, beq_iff_eq, and_assoc]
  rw [hd, show (10000 : Nat) = 9999 + 1 from rfl, run_equalIn_agg W 9999 41 _ _ hS hp]
  simp only [Program.fieldsOf, Tryz.underlying41, ndV]
  go_simp
  by_cases h0 : a0 = b0
  case neg => simp [h0]
  subst h0
  by_cases h1 : a1 = b1
  case neg => simp [h1]
  subst h1
  by_cases h2 : a2 = b2
  case neg => simp [h2]
  subst h2
  by_cases h3 : a3 = b3
  case neg => simp [h3]
  subst h3
  by_cases h4 : a4 = b4
  case neg => simp [h4]
  subst h4
  by_cases h5 : a5 = b5
  case neg => simp [h5]
  subst h5
  by_cases h6 : a6 = b6
  case neg => simp [h6]
  subst h6
  by_cases h7 : a7 = b7
  case neg => simp [h7]
  subst h7
  by_cases h8 : a8 = b8
  case neg => simp [h8]
  subst h8
  by_cases h9 : a9 = b9
  case neg => simp [h9]
  subst h9
  by_cases h10 : a10 = b10
  case neg => simp [h10]
  subst h10
  by_cases h11 : a11 = b11
  case neg => simp [h11]
  subst h11
  simp
end Go.Proofs.YtlcbmobdokicaaaGreat

/-
  The tree of a budget over plain lists: what a node is in a view, a year's nodes, those below one, the path above one; what the document's functions make of the same. No program; no condition beyond what each says.
-/
namespace Go.Proofs.YtlcbmobdokicaaaGreat
open Go.RowKit Go.Maps
set_option maxRecDepth 100000
set_option linter.unusedVariables false

abbrev nKy (y i : Int) : Txt := tx (keyL 78 [y, i])
theorem nKyLen (y i : Int) : (keyL 78 [y, i]).length = 9 := by unfold keyL; rw [tagL_length]; rfl
theorem nYearLen (y : Int) : (keyL 78 [y]).length = 5 := by unfold keyL; rw [tagL_length]; rfl
theorem nKy_len (y i : Int) : (nKy y i).length = 9 := by rw [tx_length, nKyLen]
def ndKey (x : Nd) : List Int := keyL 78 [x.y, x.i]
def ndVal (x : Nd) : List Int := packN 8 [x.p, x.f, x.o, bitI x.ab, x.li, x.pr, x.en, x.ex, x.la, x.ca]
def heldB (n : Int) : Bool := decide (0 ≤ n) && decide (n ≤ 4294967295)
theorem heldB_iff (n : Int) : heldB n = true ↔ 0 ≤ n ∧ n < 4294967296 := by unfold heldB; simp only [Bool.and_eq_true, decide_eq_true_eq]; omega
/-- What putting a node leaves. -/
def VS.putN (S : VS) (x : Nd) : VS := S.put (nKy x.y x.i) (ndVal x)
/-- The node that stands in a view. -/
def nodeAt (S : VS) (y i : Int) : Option Nd := if heldB y && heldB i then ndK (keyL 78 [y, i], (S.now (nKy y i)).getD []) else none
def nodesK (ps : List KV) : List Nd := ps.filterMap ndK
/-- A year's nodes. -/
def allN (S : VS) (y : Int) : List Nd := if heldB y then nodesK ((S.scan (tx (keyL 78 [y]))).map kvOf) else []
def kidsN (S : VS) (y i : Int) : List Nd := (allN S y).filter fun x => x.p == i
/-- A node with those above it, at most k of them. -/
def pathN (S : VS) (y : Int) : Nat → Int → List Nd
  | 0, _ => []
  | k + 1, i => match nodeAt S y i with
    | none => []
    | some n => if n.p = 0 then [n] else n :: pathN S y k n.p
def usedN (x : Nd) : Int := wrap64 (wrap64 (x.pr + x.en) + x.ex)
def givenN (l : List Nd) : Int := l.foldl (fun s x => wrap64 (s + x.li)) 0
theorem givenN_snoc (l : List Nd) (x : Nd) : givenN (l ++ [x]) = wrap64 (givenN l + x.li) := by unfold givenN; rw [List.foldl_append]; rfl

theorem nKy_held (y i : Int) : keyL 78 [y, i] = keyL 78 [held4 y, held4 i] := by
  have hh : ∀ x, held4 (held4 x) = held4 x := fun x => by unfold held4; omega
  show tagL 78 [held4 y, held4 i] = tagL 78 [held4 (held4 y), held4 (held4 i)]
  rw [hh, hh]
theorem nd_split (y i : Int) : splitK (keyL 78 [y, i]) = ([held4 y, held4 i], 78, true) := by
  unfold splitK
  rw [nKy_held, split_key (fun x hx => by
    simp only [List.mem_cons, List.not_mem_nil, or_false] at hx
    rcases hx with rfl | rfl <;> exact held4_in _) (by simp)]
/-- What a pair with a node's key is. -/
theorem ndK_key {y i : Int} {b : List Int} {x : Nd} (h : ndK (keyL 78 [y, i], b) = some x) : x.y = held4 y ∧ x.i = held4 i := by
  unfold ndK numsR at h
  simp only [nd_split] at h
  split at h
  · have h := Option.some.inj (show some (ndOf _) = some x from h)
    subst h
    exact ⟨rfl, rfl⟩
  · cases h
theorem ndK_nil (y i : Int) : ndK (keyL 78 [y, i], []) = none := by
  unfold ndK numsR
  simp only [nd_split]
  rfl
theorem nodeAt_id {S : VS} {y i : Int} {x : Nd} (h : nodeAt S y i = some x) : x.y = y ∧ x.i = i ∧ heldB y = true ∧ heldB i = true := by
  unfold nodeAt at h
  split at h
  · rename_i hh
    rw [Bool.and_eq_true] at hh
    obtain ⟨h1, h2⟩ := ndK_key h
    have a := (heldB_iff _).1 hh.1
    have b := (heldB_iff _).1 hh.2
    unfold held4 at h1 h2
    exact ⟨by omega, by omega, hh.1, hh.2⟩
  · cases h
/-- The document's node: it is there, and is just this one. -/
theorem nodeAt_ref (S : VS) (y i : Int) : nodeAt S y i = (match S.now (nKy y i) with
  | none => none
  | some b => match ndK (keyL 78 [y, i], b) with
    | none => none
    | some x => if x.y = y ∧ x.i = i then some x else none) := by
  unfold nodeAt
  cases e : S.now (nKy y i) with
  | none => simp only [Option.getD_none, ndK_nil]; split <;> rfl
  | some b =>
    simp only [Option.getD_some]
    cases e2 : ndK (keyL 78 [y, i], b) with
    | none => simp only []; split <;> rfl
    | some x =>
      obtain ⟨h1, h2⟩ := ndK_key e2
      simp only []
      by_cases hh : heldB y = true ∧ heldB i = true
      · have a := (heldB_iff _).1 hh.1
        have b := (heldB_iff _).1 hh.2
        unfold held4 at h1 h2
        rw [hh.1, hh.2, if_pos (by rfl), if_pos ⟨by omega, by omega⟩]
      · rw [if_neg (by simpa using hh), if_neg]
        rintro ⟨q1, q2⟩
        refine hh ⟨(heldB_iff _).2 ?_, (heldB_iff _).2 ?_⟩
        · unfold held4 at h1; omega
        · unfold held4 at h2; omega
/-- A year's nodes as the document has them: those of that year among what the key's beginning finds. -/
theorem key_of2 {b : List Int} (hb : AllBytes b) (h1 : (splitK b).2.2 = true) (h3 : (splitK b).1.length = 2) : ∃ t x y, b = keyL t [x, y] ∧ (splitK b).1 = [x, y] ∧ InU32 [x, y] ∧ b[0]? = some t := by
  unfold splitK splitR at h1 h3 ⊢
  split at h1
  · rename_i hl
    rw [if_pos hl] at h3 ⊢
    have h3 : (unpackN 4 b 1 (b.length / 4)).length = 2 := h3
    rw [unpackN_length] at h3
    have hl9 : b.length = 9 := by omega
    rw [show b.length / 4 = 2 by omega]
    match b, hl9 with
    | [t, a0, a1, a2, a3, b0, b1, b2, b3], _ =>
      have A := four_bytes (hb a0 (by simp)) (hb a1 (by simp)) (hb a2 (by simp)) (hb a3 (by simp))
      have B := four_bytes (hb b0 (by simp)) (hb b1 (by simp)) (hb b2 (by simp)) (hb b3 (by simp))
      have hu : InU32 [numOf [a0, a1, a2, a3], numOf [b0, b1, b2, b3]] := fun v hv => by
        simp only [List.mem_cons, List.not_mem_nil, or_false] at hv
        rcases hv with rfl | rfl
        · exact A.1
        · exact B.1
      refine ⟨t, numOf [a0, a1, a2, a3], numOf [b0, b1, b2, b3], ?_, rfl, hu, rfl⟩
      unfold keyL tagL
      rw [List.take_of_length_le (by simp), map_held4 hu, show packN 4 [numOf [a0, a1, a2, a3], numOf [b0, b1, b2, b3]] = putB (numOf [a0, a1, a2, a3]) 4 ++ (putB (numOf [b0, b1, b2, b3]) 4 ++ []) from rfl, A.2, B.2]
      rfl
  · cases h1
theorem year_of {S : VS} (h : S.Ok) {y : Int} {q : Txt × List Int} (hq : q ∈ S.scan (tx (keyL 78 [y]))) {x : Nd} (hx : ndK (kvOf q) = some x) : x.y = held4 y ∧ 0 ≤ x.y ∧ x.y < 4294967296 ∧ 0 ≤ x.i ∧ x.i < 4294967296 ∧ q.1 = nKy x.y x.i := by
  have hp := ((scan_mem h).1 hq).2
  unfold ndK numsR at hx
  split at hx
  · rename_i hs
    obtain ⟨t, a, i, hk, hn, hu, ht⟩ := key_of2 (by_bytes q.1) hs.1.1 hs.1.2.2
    have hx := Option.some.inj (show some (ndOf _) = some x from hx)
    subst hx
    · have hn' : (splitK (kvOf q).1).1 = [a, i] := hn
      simp only [ndOf, hn']
      have hkey : q.1 = tx (keyL t [a, i]) := by rw [← hk, tx_by]
      rw [hkey, List.isPrefixOf_iff_prefix] at hp
      obtain ⟨r, hr⟩ := hp
      have tb : 0 ≤ t ∧ t < 256 := by_bytes q.1 t (List.mem_of_getElem? ht)
      have e5 : (keyL t [a, i]).take 5 = keyL 78 [y] := by
        have h1 : (tx (keyL t [a, i])).take 5 = tx (keyL 78 [y]) := by
          rw [← hr, List.take_append_of_le_length (by rw [tx_length, nYearLen]; omega), List.take_of_length_le (by rw [tx_length, nYearLen]; omega)]
        rw [tx_take] at h1
        exact tx_inj (fun z hz => tagL_bytes tb _ z (List.mem_of_mem_take hz)) (tagL_bytes (by omega) _) h1
      have ha := hu a (by simp)
      have hi := hu i (by simp)
      have e6 : t :: ((putB (held4 a) 4 ++ (putB (held4 i) 4 ++ [])).take 4) = 78 :: (putB (held4 y) 4 ++ []) := e5
      rw [List.take_append_of_le_length (by rw [putB_length]; omega), List.take_of_length_le (by rw [putB_length]; omega), List.append_nil] at e6
      injection e6 with e7 e8
      have e9 : a = held4 y := by
        have h1 := congrArg numOf e8
        have haa : held4 a = a := by unfold held4; omega
        rw [haa, num4 ha, num4 (held4_in y)] at h1
        exact h1
      subst e7
      exact ⟨e9, ha.1, ha.2, hi.1, hi.2, hkey⟩
  · cases hx
theorem allN_ref {S : VS} (h : S.Ok) (y : Int) : allN S y = ((S.scan (tx (keyL 78 [y]))).map kvOf).filterMap (fun p => match ndK p with
  | some x => if x.y = y then some x else none
  | none => none) := by
  unfold allN nodesK
  have key : ∀ L : TL, (∀ q ∈ L, q ∈ S.scan (tx (keyL 78 [y]))) → (if heldB y then (L.map kvOf).filterMap ndK else []) = (L.map kvOf).filterMap (fun p => match ndK p with
      | some x => if x.y = y then some x else none
      | none => none) := by
    intro L
    induction L with
    | nil => intro _; split <;> rfl
    | cons q r ih =>
      intro hL
      have ih := ih fun z hz => hL z (List.mem_cons_of_mem _ hz)
      rw [List.map_cons, List.filterMap_cons, List.filterMap_cons, ← ih]
      cases e : ndK (kvOf q) with
      | none => split <;> rfl
      | some x =>
        obtain ⟨h1, _⟩ := year_of h (hL q List.mem_cons_self) e
        simp only []
        by_cases hy : heldB y = true
        · have a := (heldB_iff _).1 hy
          unfold held4 at h1
          rw [if_pos hy, if_pos (show x.y = y by omega), if_pos hy]
        · rw [if_neg hy, if_neg (show ¬ x.y = y from fun e => hy ((heldB_iff _).2 (by unfold held4 at h1; omega))), if_neg hy]
  exact key _ fun q hq => hq
/-- What P28.2 says of a path. -/
theorem path_len (S : VS) (y : Int) : ∀ (k : Nat) (i : Int), (pathN S y k i).length ≤ k
  | 0, i => Nat.le_refl _
  | k + 1, i => by
    unfold pathN
    split
    · exact Nat.zero_le _
    · split
      · exact Nat.succ_le_succ (Nat.zero_le _)
      · rw [List.length_cons]; exact Nat.succ_le_succ (path_len S y k _)
theorem path_head {S : VS} {y : Int} : ∀ {k : Nat} {i : Int} {x : Nd}, (pathN S y k i)[0]? = some x → nodeAt S y i = some x
  | 0, i, x, h => by cases h
  | k + 1, i, x, h => by
    unfold pathN at h
    split at h
    · cases h
    · rename_i n e
      split at h
      · rw [e]; simpa using h
      · rw [e]; simpa using h
theorem path_up {S : VS} {y : Int} : ∀ {k : Nat} {i : Int} {j : Nat} {a b : Nd}, (pathN S y k i)[j]? = some a → (pathN S y k i)[j + 1]? = some b → nodeAt S y a.p = some b
  | 0, i, j, a, b, h, g => by cases h
  | k + 1, i, j, a, b, h, g => by
    unfold pathN at h g
    split at h
    · cases h
    · rename_i n e
      rw [e] at g
      simp only [] at g
      split at h
      · rename_i hz
        rw [if_pos hz] at g
        simp at g
      · rename_i hz
        rw [if_neg hz] at g
        cases j with
        | zero =>
          obtain rfl : n = a := by simpa using h
          exact path_head (by simpa using g)
        | succ j => exact path_up (by simpa using h) (by simpa using g)
theorem path_last {S : VS} {y : Int} : ∀ {k : Nat} {i : Int} {a : Nd}, (pathN S y k i).length < k → (pathN S y k i)[(pathN S y k i).length - 1]? = some a → a.p = 0 ∨ nodeAt S y a.p = none
  | 0, i, a, h, g => absurd h (Nat.not_lt_zero _)
  | k + 1, i, a, h, g => by
    unfold pathN at h g
    split at h
    · rename_i e
      rw [e] at g
      cases g
    · rename_i n e
      rw [e] at g
      simp only [] at g
      split at h
      · rename_i hz
        rw [if_pos hz] at g
        obtain rfl : n = a := by simpa using g
        exact .inl hz
      · rename_i hz
        rw [if_neg hz] at g
        rw [List.length_cons] at h g
        rw [Nat.add_sub_cancel] at g
        cases hl : (pathN S y k n.p) with
        | nil =>
          rw [hl] at g
          obtain rfl : n = a := by simpa using g
          cases k with
          | zero => rw [hl] at h; exact absurd h (by simp)
          | succ k =>
            unfold pathN at hl
            split at hl
            · rename_i e2; exact .inr e2
            · split at hl <;> cases hl
        | cons z r =>
          refine path_last (k := k) (i := n.p) (a := a) (by omega) ?_
          rw [hl] at g ⊢
          rw [List.length_cons] at g ⊢
          rw [Nat.add_sub_cancel]
          simpa using g
end Go.Proofs.YtlcbmobdokicaaaGreat
