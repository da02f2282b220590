/-
  The texts RedoPF, RedoPG, RedoPH, RedoE, RedoLaw joined. Conditions: those that each part says at its head.
-/
import Derived.Test.YtinhdimalhfgkaaGreatDoorG11
import Derived.Test.YtinhdimalhfgkaaGreatDoorG13
import Derived.Test.YtinhdimalhfgkaaGreatDoorG5
import Derived.Test.YtinhdimalhfgkaaGreatDoorG7

/-
  Contract of the program's test of images, over any disk that answers as it is to. Condition: at most 65,536 images.
-/
namespace Go.Proofs.YtinhdimalhfgkaaGreatDoor
open Go.RowKit
set_option maxRecDepth 100000
set_option linter.unusedVariables false

/-- What the test of images answers. -/
def rightE (S : DS) (l : List (Int × List Int)) : Int := if (l.length : Int) > S.P then 6 else if rightS S l then 0 else 1

section
variable {D : World → (Nat → Prop) → Addr → DS → Prop} {w : World} {F : Nat → Prop} {p : Addr} {S : DS} {q : Nat} {seq : Int}

set_option maxHeartbeats 4000000 in
theorem right_any (api : DiskApi D) (h : D w F p S) (hq : PLog w q p seq) {G : Nat → Prop} {A : Option Addr} {n c : Nat} {l : List (Int × List Int)} (hl : RImgs w G A n l) (hin : ∀ y ∈ l, -9223372036854775808 ≤ y.1 ∧ y.1 ≤ 9223372036854775807) (hn : n ≤ 65536) :
    Calls Tryz.prog 152 #[.pointer (some ⟨q, 0, none⟩), .slice A n c] w fun e w' => e = .returned (.int .i64 (rightE S l)) ∧ Below w.heap.size w w' := by
  have hok := api.ok _ _ _ _ h
  have hsz := hok.size
  have hlen := hl.1
  have hpb := pagesOf_bounds (S.n : Int)
  have hP : S.P = pagesOf S.n := rfl
  have HMD := Lib.hid (made_any hq)
  have HP := Lib.hid (pages_same api h hq)
  have HS := Lib.hid (fun w1 (hb : Below w.heap.size w w1) => api.sizeSame w1 F p S (api.below h hb))
  have LC := Lib.hid (fun w1 (hb : Below w.heap.size w w1) => (hq.below hb).cells)
  have HL := Lib.hid (fun (w1 : World) (hb : Below w.heap.size w w1) => hl.keep hb.size (fun _ _ h => h) (fun k hk _ => hb.block k hk))
  have HI := Lib.hid hin
  clear hq h hl hin
  by_cases hcp : pagesOf (S.n : Int) < (n : Int)
  · have k1 : decide (pagesOf (S.n : Int) < (n : Int)) = true := by simpa using hcp
    have HN := Lib.hid (show rightE S l = 6 by unfold rightE; rw [if_pos (by rw [hlen, hP]; exact hcp)])
    clear hcp
    go_enter Tryz.func152, Tryz.ntmps152
    go_wp2_with fail
    refine HMD.out.mono ?_
    rintro e w1 ⟨rfl, rfl⟩
    go_wp2_with fail
    refine HP.out.mono ?_
    rintro e w1 ⟨rfl, hw1⟩
    have hw1 := hw1.symm
    subst hw1
    go_wp2
    go_ret
    rw [HN.out]
    exact ⟨rfl, Below.refl _ _⟩
  · have k1 : decide (pagesOf (S.n : Int) < (n : Int)) = false := by simpa using hcp
    have HR := Lib.hid (show rightE S l = if rightS S l then 0 else 1 by unfold rightE; rw [if_neg (by rw [hlen, hP]; exact hcp)])
    have hmk := run_makeMap_int (P := Tryz.prog) Tryz.underlying231 (n : Int)
    clear hcp
    go_enter Tryz.func152, Tryz.ntmps152
    go_wp2_with fail
    refine HMD.out.mono ?_
    rintro e w1 ⟨rfl, rfl⟩
    go_wp2_with fail
    refine HP.out.mono ?_
    rintro e w1 ⟨rfl, hw1⟩
    have hw1 := hw1.symm
    subst hw1
    have HB1 := Lib.hid (Below.refl w.heap.size w)
    go_wp2
    go_loopw [25] (fun i wr => ∃ k : Nat, k ≤ n ∧ i = .int .i64 k ∧ Hid (GoodUp S l k ∧ IMap wr w.heap.size k (Places (l.map (·.1)) k) ∧ Below w.heap.size w wr)) (fun i _ => n - (intOf i).toNat)
    case atStart => exact ⟨0, Nat.zero_le _, rfl, Lib.hid ⟨⟨fun j y hj => absurd hj (by omega), fun j k y z hjk hk => absurd hk (by omega)⟩, (IMap.made w).congr (fun i => by simp [Places]), HB1.out.alloc HB1.out.size _⟩⟩
    case round =>
      obtain ⟨k, hk, rfl, hM⟩ := hrel
      by_cases hlt1 : k < n
      · obtain ⟨hgu, him, hb⟩ := hM.out
        have hlt' : (k : Int) < (n : Int) := by omega
        obtain ⟨y, hy⟩ : ∃ y, l[k]? = some y := ⟨_, List.getElem?_eq_getElem (by omega)⟩
        obtain ⟨b, rfl, hGb, hbl, hat⟩ := (HL.out wr hb).2 (by omega)
        obtain ⟨c1, D1, m, cm, c2, hmc, hm63, hrb, _⟩ := hat k y hy
        have hml : y.2.length = m := hrb.len
        have hyi := HI.out y (List.mem_of_getElem? hy)
        have hX : Below wr.heap.size wr (wr.alloc (.cells #[.int .i64 y.1, .slice D1 m cm] 151)) := (Below.refl _ _).alloc (Nat.le_refl _) _
        have hmb := him.lt
        have qlk := (him.of_block (hX.block _ hmb)).look Tryz.underlying231 (zero_unit _) hyi
        obtain ⟨e1, e2⟩ := places_get (l.map (·.1)) k y.1
        rw [e1, e2] at qlk
        have HHM := Lib.hid (show ∀ w, Calls Tryz.prog 166 #[.int .i64 (S.n : Int), .int .i64 y.1] w fun e w' => e = .returned (.tuple #[.int .i64 (homeOf (S.n : Int) y.1).1, .bool (homeOf (S.n : Int) y.1).2]) ∧ w' = w from fun w => (lay_said.home (S.n : Int) y.1 w (by omega) hyi).mono fun e w' h' => ⟨h'.1, h'.2.symm⟩)
        have hX2 : Below wr.heap.size wr ((wr.alloc (.cells #[.int .i64 y.1, .slice D1 m cm] 151)).alloc (.cells #[] 232)) := hX.alloc hX.size _
        have hbX2 := hb.trans (hX2.mono hb.size)
        have HBX := Lib.hid hbX2
        obtain ⟨l0, _, _, _⟩ := LC.out _ hbX2
        have HIM := Lib.hid (him.of_block (w' := (wr.alloc (.cells #[.int .i64 y.1, .slice D1 m cm] 151)).alloc (.cells #[] 232)) (hX2.block _ hmb))
        have HY := Lib.hid hy
        have hn63 : n ≤ 9223372036854775807 := by omega
        have hmem : y.1 ∈ (l.map (·.1)).take k ↔ ∃ j z, j < k ∧ l[j]? = some z ∧ z.1 = y.1 := by
          constructor
          · intro hm
            obtain ⟨j, hj, e⟩ := List.getElem_of_mem hm
            have hj' : j < k := by have := hj; simp at this; omega
            have hjl : j < l.length := by have := hj; simp at this; omega
            refine ⟨j, l[j], hj', List.getElem?_eq_getElem hjl, ?_⟩
            rw [← e]; simp
          · rintro ⟨j, z, hj, hz, e⟩
            obtain ⟨hjl, e2⟩ := List.getElem?_eq_some_iff.1 hz
            refine List.mem_of_getElem? (i := j) ?_
            rw [List.getElem?_take, if_pos hj, List.getElem?_map, hz]
            simp [e]
        generalize hd : decide (y.1 ∈ (l.map (·.1)).take k) = tw at qlk
        have HTW := Lib.hid hd
        have HMEM := Lib.hid hmem
        generalize hho : homeOf (S.n : Int) y.1 = ho at HHM
        have HHO := Lib.hid hho
        have HKE := Lib.hid (And.intro hgu (And.intro hb hml))
        have HBS := Lib.hid hb.size
        clear hat hrb hgu him hb hM hd hho e1 e2 hX hX2 hbX2 hmem hml hy
        go_wp2_with fail
        go_quiet (first
          | (go_at_call 142; exact Calls.quiet_of_same (HS.out _ (belowN HBX.out _)))
          | (go_at_call 166; exact Calls.quiet_of_same (HHM.out _)))
        obtain ⟨ho1, ho2⟩ := ho
        have HBQ := Lib.hid (belowN HBX.out nq)
        cases tw
        · cases ho2
          · have HN := Lib.hid (show rightE S l = 1 by
              have hnr : ¬ rightS S l := not_right_at HY.out (fun h => by
                have := HHO.out
                unfold homeOf at this
                rw [if_neg (by rw [hP] at h; omega)] at this
                cases this)
              rw [HR.out, if_neg hnr])
            go_wp2
            go_ret
            rw [HN.out]
            exact ⟨rfl, belowN HBX.out _⟩
          · by_cases h3 : m = 240
            · subst h3
              obtain ⟨w2, hrun, him2, hg⟩ := (HIM.out.of_block (w' := (((wr.alloc (.cells #[.int .i64 y.1, .slice D1 240 cm] 151)).alloc (.cells #[] 232)).drewN nq)) rfl).store Tryz.underlying231 (by unfold maxLen; omega) hyi (.agg #[])
              have hst := places_step (l := l.map (·.1)) (k := k) (i := y.1) (by rw [List.getElem?_map, HY.out]; rfl)
              rw [hst] at him2
              have hin : 0 ≤ y.1 ∧ y.1 < pagesOf S.n := by
                have := HHO.out
                unfold homeOf at this
                by_cases hc : y.1 < 0 ∨ y.1 ≥ pagesOf S.n
                · rw [if_pos hc] at this; cases this
                · omega
              have hgn := GoodUp.next HKE.out.1 HY.out ⟨hin.1, by rw [hP]; exact hin.2, HKE.out.2.2⟩ (fun j z hj hz e => by
                have := HTW.out
                rw [decide_eq_false_iff_not] at this
                exact this (HMEM.out.2 ⟨j, z, hj, hz, e⟩))
              have hb2 : Below w.heap.size w w2 := (belowN HBX.out nq).grown hg (by have := HBX.out.size; exact this) (fun k hk => by injection hk with hk; omega)
              have hM2 := Lib.hid (And.intro hgn (And.intro him2 hb2))
              clear him2 hgn hb2 hg hst hin
              go_wp2
              go_roundw
              case rel => exact ⟨k + 1, by omega, by go_num, hM2⟩
              case measure => simp [intOf]; omega
            · have k3 : ((m : Int) != 240) = true := by simp; omega
              have HN := Lib.hid (show rightE S l = 1 by
                have hnr : ¬ rightS S l := not_right_at HY.out (fun h => h3 (by have := HKE.out.2.2; omega))
                rw [HR.out, if_neg hnr])
              clear h3
              go_wp2
              go_ret
              rw [HN.out]
              exact ⟨rfl, belowN HBX.out _⟩
        · have HN := Lib.hid (show rightE S l = 1 by
            obtain ⟨j, z, hj, hz, e⟩ := HMEM.out.1 (by simpa using HTW.out)
            rw [HR.out, if_neg (not_right_two hj HY.out hz e)])
          go_wp2
          go_ret
          rw [HN.out]
          exact ⟨rfl, belowN HBX.out _⟩
      · obtain rfl : k = n := by omega
        have HN := Lib.hid (show rightE S l = 0 by
          have := (hlen ▸ hM.out.1 : GoodUp S l l.length).all
          rw [HR.out, if_pos this])
        have HB := Lib.hid hM.out.2.2
        go_wp2
        go_ret
        rw [HN.out]
        exact ⟨rfl, HB.out⟩
end

end Go.Proofs.YtinhdimalhfgkaaGreatDoor

/-
  Contract of the program's pieces: what a commit writes, packed; over any disk that answers as it is to. Conditions: images that may be committed, at most 65,536; the table that crc.Step reads holds what the program's text lays in it, apart from the disk.
-/
namespace Go.Proofs.YtinhdimalhfgkaaGreatDoor
open Go.RowKit
set_option maxRecDepth 100000
set_option linter.unusedVariables false

/-- Sectors in the slots, from i on. -/
def atSlots (i : Nat) : List (Int × List Int) → List (Int × List Int)
  | [] => []
  | y :: r => ((i : Int) + 1, y.2) :: atSlots (i + 1) r
theorem atSlots_length (l : List (Int × List Int)) : ∀ i, (atSlots i l).length = l.length := by
  induction l with
  | nil => intro i; rfl
  | cons y r ih => intro i; simp [atSlots, ih]
theorem atSlots_append (l : List (Int × List Int)) (y : Int × List Int) : ∀ i, atSlots i (l ++ [y]) = atSlots i l ++ [(((i + l.length : Nat) : Int) + 1, y.2)] := by
  induction l with
  | nil => intro i; simp [atSlots]
  | cons z r ih =>
    intro i
    simp only [List.cons_append, atSlots, ih, List.length_cons]
    rw [show i + 1 + r.length = i + (r.length + 1) by omega]
theorem atSlots_snd (l : List (Int × List Int)) : ∀ i, ∀ y ∈ atSlots i l, ∃ z ∈ l, y.2 = z.2 := by
  induction l with
  | nil => intro i y hy; cases hy
  | cons z r ih =>
    intro i y hy
    rcases List.mem_cons.1 hy with rfl | hy
    · exact ⟨z, List.mem_cons_self .., rfl⟩
    · obtain ⟨u, hu, e⟩ := ih _ y hy
      exact ⟨u, List.mem_cons_of_mem _ hu, e⟩
theorem putS_slots (l : List (Int × List Int)) : ∀ (S : DS) (i : Nat), putS S (atSlots i l) = thenS (slotsS S i l) DS.fl := by
  induction l with
  | nil => intro S i; exact (thenS_ok (r := (0, S)) rfl).symm
  | cons y r ih =>
    intro S i
    obtain ⟨pg, b⟩ := y
    show thenS (S.wr ((i : Int) + 1) b) (fun S' => putS S' (atSlots (i + 1) r)) = thenS (thenS (S.wr ((i : Int) + 1) b) (fun S' => slotsS S' ((i : Int) + 1) r)) DS.fl
    by_cases h : (S.wr ((i : Int) + 1) b).1 = 0
    · rw [thenS_ok h, thenS_ok h]
      have := ih (S.wr ((i : Int) + 1) b).2 (i + 1)
      rw [show (((i + 1 : Nat) : Int)) = (i : Int) + 1 by omega] at this
      exact this
    · rw [thenS_no h, thenS_no h, thenS_no h]

section
variable {D : World → (Nat → Prop) → Addr → DS → Prop} {w : World} {F : Nat → Prop} {p : Addr} {S : DS} {q : Nat} {seq : Int}

theorem slot_own {W : World} {o : Obj} {A : Option Addr} {n c : Nat} {v : Value} (h : (Value.slice A n c).ownBlock = v.ownBlock ∨ (Value.slice A n c).ownBlock = some (W.alloc o).heap.size) : (Value.slice A n c).ownBlock = v.ownBlock ∨ ∃ r, (Value.slice A n c).ownBlock = some r ∧ W.heap.size ≤ r := h.imp id (fun e => ⟨_, e, by simp⟩)
theorem frozen_setCell (w : World) (a b : Addr) (v : Value) : (w.setCell a v).frozen? b = w.frozen? b := by
  unfold World.frozen?
  by_cases h : b.block = a.block
  · rw [h]
    simp only [World.setCell, Array.getElem?_modify]
    simp
    cases hh : w.heap[a.block]? with
    | none => rfl
    | some o => cases o <;> rfl
  · rw [Below.heap_setCell _ _ _ _ h]
/-- Or that block. -/
def orAt (F : Nat → Prop) (b : Nat) : Nat → Prop := fun k => F k ∨ k = b
/-- With another row's block. -/
def andOwn (F : Nat → Prop) (v : Value) : Nat → Prop := fun k => F k ∨ v.ownBlock = some k
/-- Between two rounds of pieces. -/
def TwoP (B : Nat) (wr : World) (F : Nat → Prop) (ov pv : Value) (l1 l2 : List (Int × List Int)) : Prop :=
  PRow 131 256 wr (andOwn F pv) B ov l1 ∧ PRow 131 256 wr (andOwn F ov) B pv l2

theorem TwoP.swap {B : Nat} {wr : World} {ov pv : Value} {l1 l2 : List (Int × List Int)} (h : TwoP B wr F ov pv l1 l2) : TwoP B wr F pv ov l2 l1 := ⟨h.2, h.1⟩
theorem TwoP.below {B : Nat} {wr w1 : World} {ov pv : Value} {l1 l2 : List (Int × List Int)} (h : TwoP B wr F ov pv l1 l2) (hb : Below wr.heap.size wr w1) : TwoP B w1 F ov pv l1 l2 := ⟨h.1.below (by decide) hb, h.2.below (by decide) hb⟩
/-- One list has one more. -/
theorem TwoP.push {B : Nat} {wr X w1 : World} {ov pv ov' : Value} {l1 l2 : List (Int × List Int)} {x : Int} {b : List Int} {g cg : Nat} (h : TwoP B wr F ov pv l1 l2) (hFlt : ∀ k, F k → k < wr.heap.size)
    (hfar : 256 ≤ cg ∧ ¬ F g ∧ ov.ownBlock ≠ some g ∧ pv.ownBlock ≠ some g ∧ g < wr.heap.size ∧ RB wr wr.heap.size (some ⟨g, 0, none⟩) 256 b)
    {vs : List Value} (hvs : wr.ownsRow B 131 2 ov l1.length vs) (hvl : ∀ (i : Nat) (x : Int × List Int), l1[i]? = some x → vs[i * 2]? = some (.int .i64 x.1) ∧ ∃ u, vs[i * 2 + 1]? = some u ∧ Far wr (andOwn F pv) ov u 256 x.2)
    (hX : Below wr.heap.size wr X) (hown : w1.ownsRow B 131 2 ov' (l1.length + 1) (vs ++ [.int .i64 x, .slice (some ⟨g, 0, none⟩) 256 cg])) (hg : X.grownBy w1 ov.ownBlock) (hl : ov'.ownBlock = ov.ownBlock ∨ ∃ r, ov'.ownBlock = some r ∧ wr.heap.size ≤ r) :
    TwoP B w1 F ov' pv (l1 ++ [(x, b)]) l2 ∧ wr.heap.size ≤ w1.heap.size ∧ (∀ k, k < wr.heap.size → ov.ownBlock ≠ some k → w1.heap[k]? = wr.heap[k]?) ∧ (ov'.ownBlock ≠ some g ∧ pv.ownBlock ≠ some g ∧ g < w1.heap.size ∧ RB w1 w1.heap.size (some ⟨g, 0, none⟩) 256 b) := by
  obtain ⟨h1, h2⟩ := h
  obtain ⟨f1, f2, f3, f4, f5, f6⟩ := hfar
  obtain ⟨vs2, hv2, _⟩ := h2.row
  obtain ⟨q1, q2, q3⟩ := h1.push (x := x) (b := b) (by decide) (fun k hk => by
    rcases hk with a | a
    · exact hFlt k a
    · exact (own_at hv2 k a).2) ⟨g, cg, rfl, f1, fun hf => by
      rcases hf with a | a
      · exact f2 a
      · exact f4 a, f3, f5, f6⟩ hvs hvl hX hown hg hl
  have hng : ov'.ownBlock ≠ some g := fun e => by
    rcases hl with a | ⟨r, a, hr⟩
    · exact f3 (a.symm.trans e)
    · rw [a] at e; injection e with e; omega
  refine ⟨⟨q1, h2.keep (by decide) q2 (fun k hk hn hf => ?_) (fun k hk hn => q3 k hk (fun e => hn (.inr e)))⟩, q2, q3, hng, f4, by omega, f6.there (by decide) (q3 g f5 f3) q2⟩
  rcases hf with a | a
  · exact hn (.inl a)
  · rcases hl with e | ⟨r, e, hr⟩
    · exact hn (.inr (e.symm.trans a))
    · rw [e] at a; injection a with a; omega

set_option maxHeartbeats 4000000 in
theorem pieces_any (api : DiskApi D) (h : D w F p S) (hq : PLog w q p seq) (ht : TabF w F) {G F2 : Nat → Prop} (hF2 : ∀ k, F2 k → k < w.heap.size) {A : Option Addr} {n c : Nat} {l : List (Int × List Int)} (hl : RImgs w G A n l) (him : Imgs S.n seq l) (hn : n ≤ 65536) (hnP : (n : Int) ≤ pagesOf S.n) :
    Calls Tryz.prog 153 #[.pointer (some ⟨q, 0, none⟩), .slice A n c] w fun e w' => Below w.heap.size w w' ∧ ∃ A1 c1 g cg A2 c2, e = .returned (.tuple #[.slice A1 n c1, .agg #[.int .i64 0, .slice (some ⟨g, 0, none⟩) 256 cg], .slice A2 n c2, .int .i64 0]) ∧
      RImgs w' F2 A1 n (atSlots 0 (packs (seq + 1) l)) ∧ RImgs w' F2 A2 n (atHomes (pagesOf S.n) (packs (seq + 1) l)) ∧ 256 ≤ cg ∧ w.heap.size ≤ g ∧ RB w' w'.heap.size (some ⟨g, 0, none⟩) 256 (secL n (seq + 1) zpage) := by
  have hok := api.ok _ _ _ _ h
  have hlt := api.lt _ _ _ _ h
  have hsz := hok.size
  have hlen := hl.1
  have hpb := pagesOf_bounds (S.n : Int)
  have hseq := him.seq0
  have hseq2 := him.seq1
  have hfew := him.few
  have HS := Lib.hid (fun w1 (hb : Below w.heap.size w w1) => api.sizeSame w1 F p S (api.below h hb))
  have LC := Lib.hid (fun w1 (hb : Below w.heap.size w w1) => (hq.below hb).cells)
  have HL := Lib.hid (fun (w1 : World) (hb : Below w.heap.size w w1) => hl.keep hb.size (fun _ _ h => h) (fun k hk _ => hb.block k hk))
  have HT := Lib.hid (fun w1 (hb : Below w.heap.size w w1) => ht.below hb)
  have HPS := Lib.hid pack_said
  have HIM := Lib.hid him
  have hX0 : Below (w.heap.size + 1) (w.alloc (.cells #[.int .i64 0, .slice none 0 0] 131)) (w.alloc (.cells #[.int .i64 0, .slice none 0 0] 131)) := Below.refl _ _
  have hw0 := (resP hX0).1
  obtain ⟨l0, l1, _, _⟩ := LC.out _ hw0
  have r1 : wrap64 (seq + 1) = seq + 1 := by unfold wrap64; omega
  clear hl him ht h
  go_enter Tryz.func153, Tryz.ntmps153
  go_wp2_with fail
  go_loopw [4, 6, 24] (fun ov pv i wr => ∃ k : Nat, k ≤ n ∧ i = .int .i64 k ∧ Hid (TwoP (w.heap.size + 1) wr (orAt F2 w.heap.size) ov pv (atSlots 0 ((packs (seq + 1) l).take k)) (atHomes (pagesOf S.n) ((packs (seq + 1) l).take k)) ∧ Below (w.heap.size + 1) (w.alloc (.cells #[.int .i64 0, .slice none 0 0] 131)) wr)) (fun _ _ i _ => n - (intOf i).toNat)
  case atStart => exact ⟨0, Nat.zero_le _, rfl, Lib.hid ⟨⟨PRow.start _ _ _ _ _, PRow.start _ _ _ _ _⟩, Below.refl _ _⟩⟩
  case round =>
    obtain ⟨k, hk, rfl, hM⟩ := hrel
    clear l0 l1 hw0 hX0
    obtain ⟨⟨hrow1, hrow2⟩, hX⟩ := hM.out
    obtain ⟨hb, c0, c1, f0, f1, hs1⟩ := resP hX
    have hpl := packs_length (seq + 1) l
    by_cases hlt1 : k < n
    · have hlt' : (k : Int) < (n : Int) := by omega
      obtain ⟨y, hy⟩ : ∃ y, l[k]? = some y := ⟨_, List.getElem?_eq_getElem (by omega)⟩
      have hym := List.mem_of_getElem? hy
      obtain ⟨hpk, hup, hb256⟩ := HIM.out.pack hym
      have hps : (packs (seq + 1) l)[k]? = some (y.1, secL y.1 (seq + 1) y.2) := by unfold packs; rw [List.getElem?_map, hy, ← hpk]; rfl
      have hpage := HIM.out.page y hym
      obtain ⟨b, rfl, hGb, hbl, hat⟩ := (HL.out wr hb).2 (by omega)
      obtain ⟨d1, D1, m, cm, d2, hmc, hm63, hrb, _⟩ := hat k y hy
      have hm240 : m = 240 := by rw [← hrb.len]; exact hpage.2.2
      subst hm240
      have hI : Below wr.heap.size wr (wr.alloc (.cells #[.int .i64 y.1, .slice D1 240 cm] 151)) := (Below.refl _ _).alloc (Nat.le_refl _) _
      have hbI := hb.trans (hI.mono hb.size)
      have htI := HT.out _ hbI
      have hsec : secR y.1 (seq + 1) = true := decide_eq_true ⟨hpage.1, by omega, by omega, by omega⟩
      have hpr : packR y.1 (seq + 1) y.2 = (secL y.1 (seq + 1) y.2, 0) := by unfold packR; rw [if_pos ⟨hsec, hpage.2.2⟩]
      have HPK := Lib.hid (HPS.out D1 240 cm _ y.2 y.1 (seq + 1) _ (hrb.below hI) (by simp) hmc (by omega) htI.tab htI.lt)
      rw [hpr] at HPK
      simp only [hb256] at HPK
      have hn63 : n ≤ 9223372036854775807 := by omega
      have HKE := Lib.hid (And.intro hrow1 (And.intro hrow2 (And.intro hX (And.intro hy (And.intro hps hI)))))
      have HBY := Lib.hid (secL_bytes y.1 (seq + 1) (HIM.out.bytes y hym))
      have HPG := Lib.hid hpage
      obtain ⟨A1, q1, rfl, _, _⟩ := hrow1.imgs (by decide)
      obtain ⟨A2, q2, rfl, _, _⟩ := hrow2.imgs (by decide)
      clear hrow1 hrow2 hX hM hat hrb hy hps hpk hup hpage hI htI hpr hb256 hpl hsec hym
      go_wp2_with fail
      refine HPK.out.mono ?_
      rintro e w2 ⟨v2, rfl, hown2, hb2⟩
      obtain ⟨g, cg, rfl, hcg, hg⟩ := own_some hown2 (by decide)
      have hr2 : RB w2 w2.heap.size (some ⟨g, 0, none⟩) 256 (secL y.1 (seq + 1) y.2) := RB.of_own hown2 HBY.out
      obtain ⟨hrow1, hrow2, hX, hy, hps, hI⟩ := HKE.out
      have hsI : (wr.alloc (.cells #[.int .i64 y.1, .slice D1 240 cm] 151)).heap.size = wr.heap.size + 1 := by simp
      have hb2' : Below wr.heap.size wr w2 := hI.trans (hb2.mono (by rw [hsI]; omega))
      have hX2 := hX.trans (hb2'.mono hs1)
      have hbw2 := hb.trans (hb2'.mono hb.size)
      have hTP2 : TwoP (w.heap.size + 1) w2 (orAt F2 w.heap.size) _ _ _ _ := TwoP.below ⟨hrow1, hrow2⟩ hb2'
      have hgw : wr.heap.size < g := by rw [hsI] at hg; omega
      have hgl : g < w2.heap.size := by obtain ⟨bb, _, e, hbb, _⟩ := hr2.at_ (by decide); cases e; exact hbb
      have hno1 : (Value.slice A1 (atSlots 0 ((packs (seq + 1) l).take k)).length q1).ownBlock ≠ some g := fun e => by
        obtain ⟨vs0, hv0, _⟩ := hrow1.row
        have := (own_at hv0 g e).2
        omega
      have hno2 : (Value.slice A2 (atHomes (pagesOf S.n) ((packs (seq + 1) l).take k)).length q2).ownBlock ≠ some g := fun e => by
        obtain ⟨vs0, hv0, _⟩ := hrow2.row
        have := (own_at hv0 g e).2
        omega
      have hFg : ¬ orAt F2 w.heap.size g := fun hf => by
        have := hb.size
        rcases hf with a | a
        · have := hF2 g a; omega
        · omega
      obtain ⟨l0, l1, _, _⟩ := LC.out _ hbw2
      have i0 : w2.cell? ⟨wr.heap.size, 0, none⟩ = some (.int .i64 y.1) := by
        rw [hb2.cell (p := ⟨wr.heap.size, 0, none⟩) (by simp), cell_of_row _ wr.heap.size 0 _ _ (0, 0) (heap_alloc_new _ _)]
        rfl
      have hsl : slotOf (S.n : Int) (k : Int) = ((k : Int) + 1, true) := by unfold slotOf; rw [if_neg (by omega)]
      have HSL := Lib.hid (show ∀ w, Calls Tryz.prog 200 #[.int .i64 (S.n : Int), .int .i64 (k : Int)] w fun e w' => e = .returned (.tuple #[.int .i64 ((k : Int) + 1), .bool true]) ∧ w' = w from fun w => by
        have hh := lay_said.slot (S.n : Int) (k : Int) w (by omega) (by omega)
        rw [hsl] at hh
        exact hh.mono fun e w' h' => ⟨h'.1, h'.2.symm⟩)
      have hpg := HPG.out
      have hho : homeOf (S.n : Int) y.1 = (y.1 + 1 + pagesOf S.n, true) := by unfold homeOf; rw [if_neg (by omega)]
      have HHM := Lib.hid (show ∀ w, Calls Tryz.prog 166 #[.int .i64 (S.n : Int), .int .i64 y.1] w fun e w' => e = .returned (.tuple #[.int .i64 (y.1 + 1 + pagesOf S.n), .bool true]) ∧ w' = w from fun w => by
        have hh := lay_said.home (S.n : Int) y.1 w (by omega) (by omega)
        rw [hho] at hh
        exact hh.mono fun e w' h' => ⟨h'.1, h'.2.symm⟩)
      have HBW := Lib.hid hbw2
      have HK2 := Lib.hid (And.intro hTP2 (And.intro (show 256 ≤ cg ∧ ¬ orAt F2 w.heap.size g ∧ (Value.slice A1 (atSlots 0 ((packs (seq + 1) l).take k)).length q1).ownBlock ≠ some g ∧ (Value.slice A2 (atHomes (pagesOf S.n) ((packs (seq + 1) l).take k)).length q2).ownBlock ≠ some g ∧ g < w2.heap.size ∧ RB w2 w2.heap.size (some ⟨g, 0, none⟩) 256 (secL y.1 (seq + 1) y.2) from ⟨hcg, hFg, hno1, hno2, hgl, hr2⟩) (And.intro hX2 hps)))
      clear hown2 hr2 hrow1 hrow2 hX hy hps hI hsI hb2' hX2 hbw2 hTP2 hgw hgl hno1 hno2 hFg hsl hho hcg hpg hb2 hb c0 c1 f0 f1
      generalize hL1 : atSlots 0 ((packs (seq + 1) l).take k) = L1 at *
      generalize hL2 : atHomes (pagesOf S.n) ((packs (seq + 1) l).take k) = L2 at *
      go_wp2_with (first
        | (go_at_call 142; refine (HS.out _ HBW.out).mono ?_; rintro e w3 ⟨rfl, hw3⟩; have hw3 := hw3.symm; subst hw3)
        | (go_at_call 200; refine (HSL.out _).mono ?_; rintro e w3 ⟨rfl, hw3⟩; have hw3 := hw3.symm; subst hw3))
      go_quiet (first
          | (go_at_call 142; exact Calls.quiet_of_same (HS.out _ (belowN HBW.out _)))
          | (go_at_call 166; exact Calls.quiet_of_same (HHM.out _)))
      obtain ⟨hTP, hfar, hX2, hps⟩ := HK2.out
      have hTPq : TwoP (w.heap.size + 1) (w2.drewN nq) (orAt F2 w.heap.size) (.slice A1 L1.length q1) (.slice A2 L2.length q2) L1 L2 := hTP.below (belowN (Below.refl _ _) nq)
      obtain ⟨vs1, hv1, hl1⟩ := hTPq.1.row
      have hXa : Below w2.heap.size (w2.drewN nq) ((w2.drewN nq).alloc (.cells #[.int .i64 ((k : Int) + 1), .slice (some ⟨g, 0, none⟩) 256 cg] 131)) := (Below.refl w2.heap.size (w2.drewN nq)).alloc (Nat.le_refl _) _
      have hv1X := own_stays hv1 (fun r hr => hXa.block r (own_at hv1 r hr).2)
      have hbk1 : ((w2.drewN nq).alloc (.cells #[.int .i64 ((k : Int) + 1), .slice (some ⟨g, 0, none⟩) 256 cg] 131)).heap[w2.heap.size]? = some (.cells #[.int .i64 ((k : Int) + 1), .slice (some ⟨g, 0, none⟩) 256 cg] 131 (0, 0)) := heap_alloc_new (w2.drewN nq) _
      have hwF : ∀ k, orAt F2 w.heap.size k → k < w2.heap.size := fun k hk => by
        have := (resP hX2).2.2.2.2.2
        rcases hk with a | a
        · have := hF2 k a; omega
        · omega
      have HPU := Lib.hid (fun (w4 : World) (A4 : Option Addr) (c4 : Nat) h1 h2 h3 => hTPq.push (w1 := w4) (ov' := .slice A4 (L1.length + 1) c4) (x := (k : Int) + 1) hwF hfar hv1 hl1 hXa h1 h2 h3)
      have hs2 : w.heap.size + 1 ≤ w2.heap.size := (resP hX2).2.2.2.2.2
      have hll1 : L1.length ≤ 4294967296 := by rw [← hL1, atSlots_length, List.length_take]; omega
      have hll2 : L2.length ≤ 4294967296 := by rw [← hL2]; simp [atHomes, List.length_take]; omega
      have HOV1 := Lib.hid (fun r hr => (own_at hv1 r hr).1)
      have HL12 := Lib.hid (And.intro hL1 hL2)
      have HKP := Lib.hid (And.intro hfar (And.intro hX2 hps))
      clear hTP hfar hX2 hps hTPq hv1 hl1 hXa hL1 hL2
      go_wp2_with (first
        | (at_builtin; refine wpList_append_two rfl _ _ 188 131 rfl Tryz.underlying188 info_piece (w.heap.size + 1) (.slice A1 L1.length q1) L1.length vs1 rfl w2.heap.size (.int .i64 ((k : Int) + 1)) (.slice (some ⟨g, 0, none⟩) 256 cg) 131 rfl hv1X hbk1 rfl rfl hll1 (by simp; omega) ?_; intro A4 c4 w4 hown4 hg4 hl4; have HO4 := Lib.hid (And.intro hown4 (And.intro hg4 hl4)); have hs4 : w2.heap.size + 1 ≤ w4.heap.size := (by have := hg4.size; simpa using this); obtain ⟨hTP4, hsz4, hall4, hno41, hno42, hgl4, hr4⟩ := HPU.out w4 A4 c4 hown4 hg4 (slot_own hl4); obtain ⟨vs2, hv2, hl2⟩ := hTP4.2.row; have hXb : Below w4.heap.size w4 (w4.alloc (.cells #[.int .i64 (y.1 + 1 + pagesOf S.n), .slice (some ⟨g, 0, none⟩) 256 cg] 131)) := (Below.refl _ _).alloc (Nat.le_refl _) _; have hv2X := own_stays hv2 (fun r hr => hXb.block r (own_at hv2 r hr).2); have hbk2 : (w4.alloc (.cells #[.int .i64 (y.1 + 1 + pagesOf S.n), .slice (some ⟨g, 0, none⟩) 256 cg] 131)).heap[w4.heap.size]? = some (.cells #[.int .i64 (y.1 + 1 + pagesOf S.n), .slice (some ⟨g, 0, none⟩) 256 cg] 131 (0, 0)) := heap_alloc_new _ _; have HPU2 := Lib.hid (fun (w5 : World) (A5 : Option Addr) (c5 : Nat) h1 h2 h3 => hTP4.swap.push (w1 := w5) (ov' := .slice A5 (L2.length + 1) c5) (x := y.1 + 1 + pagesOf S.n) (fun k hk => Nat.lt_of_lt_of_le (hwF k hk) hsz4) ⟨HKP.out.1.1, HKP.out.1.2.1, hno42, hno41, hgl4, hr4⟩ hv2 hl2 hXb h1 h2 h3); have HOV2 := Lib.hid (fun r hr => (own_at hv2 r hr).1); clear hown4 hg4 hl4 hv1X hbk1 hTP4 hall4 hno41 hno42 hgl4 hr4 hv2 hl2 hXb hsz4)
        | (at_builtin; refine wpList_append_two rfl _ _ 188 131 rfl Tryz.underlying188 info_piece (w.heap.size + 1) (.slice A2 L2.length q2) L2.length vs2 rfl w4.heap.size (.int .i64 (y.1 + 1 + pagesOf S.n)) (.slice (some ⟨g, 0, none⟩) 256 cg) 131 rfl hv2X hbk2 rfl rfl hll2 (by simp; omega) ?_; intro A5 c5 w5 hown5 hg5 hl5; have HO5 := Lib.hid (And.intro hown5 (And.intro hg5 hl5)); clear hown5 hg5 hl5 hv2X hbk2))
      obtain ⟨hTP5, _⟩ := HPU2.out w5 A5 c5 HO5.out.1 HO5.out.2.1 (slot_own HO5.out.2.2)
      obtain ⟨_, hX2, hps⟩ := HKP.out
      have hkl : ((packs (seq + 1) l).take k).length = k := by rw [List.length_take, packs_length]; omega
      have hX4 : Below (w.heap.size + 1) (w.alloc (.cells #[.int .i64 0, .slice none 0 0] 131)) w4 := ((belowN hX2 nq).alloc hs2 _).grown HO4.out.2.1 (by simp; omega) HOV1.out
      have hX5 : Below (w.heap.size + 1) (w.alloc (.cells #[.int .i64 0, .slice none 0 0] 131)) w5 := (hX4.alloc (by omega) _).grown HO5.out.2.1 (by simp; omega) HOV2.out
      have hM2 := Lib.hid (show TwoP (w.heap.size + 1) w5 (orAt F2 w.heap.size) (.slice A4 (L1.length + 1) c4) (.slice A5 (L2.length + 1) c5) (atSlots 0 ((packs (seq + 1) l).take (k + 1))) (atHomes (pagesOf S.n) ((packs (seq + 1) l).take (k + 1))) ∧ Below (w.heap.size + 1) (w.alloc (.cells #[.int .i64 0, .slice none 0 0] 131)) w5 from by
        rw [List.take_add_one, hps]
        refine ⟨?_, hX5⟩
        have e1 := atSlots_append ((packs (seq + 1) l).take k) (y.1, secL y.1 (seq + 1) y.2) 0
        rw [hkl, HL12.out.1, Nat.zero_add] at e1
        have e2 : atHomes (pagesOf S.n) ((packs (seq + 1) l).take k ++ [(y.1, secL y.1 (seq + 1) y.2)]) = L2 ++ [(y.1 + 1 + pagesOf S.n, secL y.1 (seq + 1) y.2)] := by
          rw [← HL12.out.2]; simp [atHomes]
        show TwoP _ _ _ _ _ (atSlots 0 ((packs (seq + 1) l).take k ++ [(y.1, secL y.1 (seq + 1) y.2)])) (atHomes (pagesOf S.n) ((packs (seq + 1) l).take k ++ [(y.1, secL y.1 (seq + 1) y.2)]))
        rw [e1, e2]
        exact hTP5.swap)
      clear hTP5 hX2 hps hkl hX4 hX5
      go_roundw
      case rel => exact ⟨k + 1, by omega, by go_num, hM2⟩
      case measure => simp [intOf]; omega
    · obtain rfl : k = n := by omega
      obtain ⟨A1, q1, rfl, _, him1⟩ := hrow1.imgs (by decide)
      obtain ⟨A2, q2, rfl, _, him2⟩ := hrow2.imgs (by decide)
      have hfull : (packs (seq + 1) l).take k = packs (seq + 1) l := List.take_of_length_le (by omega)
      rw [hfull] at him1 him2
      have e1 : (atSlots 0 ((packs (seq + 1) l).take k)).length = k := by rw [atSlots_length, hfull, hpl]; omega
      have e2 : (atHomes (pagesOf S.n) ((packs (seq + 1) l).take k)).length = k := by rw [hfull]; simp [atHomes, hpl]; omega
      have e1' : (atSlots 0 (packs (seq + 1) l)).length = k := by rw [hfull] at e1; exact e1
      have e2' : (atHomes (pagesOf S.n) (packs (seq + 1) l)).length = k := by rw [hfull] at e2; exact e2
      rw [e1'] at him1
      rw [e2'] at him2
      have HIM1 := Lib.hid (And.intro him1 him2)
      have HMK := Lib.hid (markOf_any (F := F) (k : Int) (seq + 1) (decide_eq_true ⟨by omega, by omega, by omega, by omega⟩) (HT.out wr hb))
      have HX := Lib.hid hX
      have hsw := hb.size
      clear hrow1 hrow2 hX hM hfull him1 him2 e1' e2' c0 c1 f0 f1
      go_wp2_with fail
      refine HMK.out.mono ?_
      rintro e w2 ⟨g, c2, rfl, hc2, hg2, hr2, hb2⟩
      have hX2 := HX.out.trans (hb2.mono hs1)
      obtain ⟨hbw, c0, c1, f0, f1, _⟩ := resP hX2
      have hE := Lib.hid (hom_end hX2 (.int .i64 0) (.slice (some ⟨g, 0, none⟩) 256 c2))
      obtain ⟨d0, d1⟩ := piece_cells (w := w2) (.int .i64 0) (.slice (some ⟨g, 0, none⟩) 256 c2) c0 c1
      have fs0 : ((w2.setCell ⟨w.heap.size, 0, none⟩ (.int .i64 0)).setCell ⟨w.heap.size, 1, none⟩ (.slice (some ⟨g, 0, none⟩) 256 c2)).frozen? ⟨w.heap.size, 0, none⟩ = false := by rw [frozen_setCell, frozen_setCell]; exact f0
      have fs1 : ((w2.setCell ⟨w.heap.size, 0, none⟩ (.int .i64 0)).setCell ⟨w.heap.size, 1, none⟩ (.slice (some ⟨g, 0, none⟩) 256 c2)).frozen? ⟨w.heap.size, 1, none⟩ = false := by rw [frozen_setCell, frozen_setCell]; exact f1
      obtain ⟨d2, d3⟩ := piece_cells (w := (w2.setCell ⟨w.heap.size, 0, none⟩ (.int .i64 0)).setCell ⟨w.heap.size, 1, none⟩ (.slice (some ⟨g, 0, none⟩) 256 c2)) (.int .i64 0) (.slice (some ⟨g, 0, none⟩) 256 c2) d0 d1
      have HK := Lib.hid (And.intro hX2 (And.intro hr2 (And.intro hc2 (And.intro hg2 (And.intro hb2 (And.intro e1 e2))))))
      clear hX2 hr2 hc2 hg2 hb2 hbw e1 e2
      go_wp2
      go_region
      obtain ⟨hX2, hr2, hc2, hg2, hb2, e1, e2⟩ := HK.out
      have hbY : Below w.heap.size w ((((w2.setCell ⟨w.heap.size, 0, none⟩ (.int .i64 0)).setCell ⟨w.heap.size, 1, none⟩ (.slice (some ⟨g, 0, none⟩) 256 c2)).setCell ⟨w.heap.size, 0, none⟩ (.int .i64 0)).setCell ⟨w.heap.size, 1, none⟩ (.slice (some ⟨g, 0, none⟩) 256 c2)).drew :=
        (((((resP hX2).1.setCell (Nat.le_refl _) _).setCell (Nat.le_refl _) _).setCell (Nat.le_refl _) _).setCell (Nat.le_refl _) _).drew
      have hother : ∀ r, r ≠ w.heap.size → ((((w2.setCell ⟨w.heap.size, 0, none⟩ (.int .i64 0)).setCell ⟨w.heap.size, 1, none⟩ (.slice (some ⟨g, 0, none⟩) 256 c2)).setCell ⟨w.heap.size, 0, none⟩ (.int .i64 0)).setCell ⟨w.heap.size, 1, none⟩ (.slice (some ⟨g, 0, none⟩) 256 c2)).drew.heap[r]? = w2.heap[r]? := fun r hr => by
        show (((((w2.setCell ⟨w.heap.size, 0, none⟩ (.int .i64 0)).setCell ⟨w.heap.size, 1, none⟩ (.slice (some ⟨g, 0, none⟩) 256 c2)).setCell ⟨w.heap.size, 0, none⟩ (.int .i64 0)).setCell ⟨w.heap.size, 1, none⟩ (.slice (some ⟨g, 0, none⟩) 256 c2))).heap[r]? = w2.heap[r]?
        rw [Below.heap_setCell _ _ _ _ hr, Below.heap_setCell _ _ _ _ hr, Below.heap_setCell _ _ _ _ hr, Below.heap_setCell _ _ _ _ hr]
      have hszY : ((((w2.setCell ⟨w.heap.size, 0, none⟩ (.int .i64 0)).setCell ⟨w.heap.size, 1, none⟩ (.slice (some ⟨g, 0, none⟩) 256 c2)).setCell ⟨w.heap.size, 0, none⟩ (.int .i64 0)).setCell ⟨w.heap.size, 1, none⟩ (.slice (some ⟨g, 0, none⟩) 256 c2)).drew.heap.size = w2.heap.size := by simp
      have hdY : ((((w2.setCell ⟨w.heap.size, 0, none⟩ (.int .i64 0)).setCell ⟨w.heap.size, 1, none⟩ (.slice (some ⟨g, 0, none⟩) 256 c2)).setCell ⟨w.heap.size, 0, none⟩ (.int .i64 0)).setCell ⟨w.heap.size, 1, none⟩ (.slice (some ⟨g, 0, none⟩) 256 c2)).drew.cell? ⟨w.heap.size, 0, none⟩ = some (.int .i64 0) ∧ ((((w2.setCell ⟨w.heap.size, 0, none⟩ (.int .i64 0)).setCell ⟨w.heap.size, 1, none⟩ (.slice (some ⟨g, 0, none⟩) 256 c2)).setCell ⟨w.heap.size, 0, none⟩ (.int .i64 0)).setCell ⟨w.heap.size, 1, none⟩ (.slice (some ⟨g, 0, none⟩) 256 c2)).drew.cell? ⟨w.heap.size, 1, none⟩ = some (.slice (some ⟨g, 0, none⟩) 256 c2) := ⟨d2, d3⟩
      clear d0 d1 d2 d3 fs0 fs1 c0 c1 f0 f1
      generalize ((((w2.setCell ⟨w.heap.size, 0, none⟩ (.int .i64 0)).setCell ⟨w.heap.size, 1, none⟩ (.slice (some ⟨g, 0, none⟩) 256 c2)).setCell ⟨w.heap.size, 0, none⟩ (.int .i64 0)).setCell ⟨w.heap.size, 1, none⟩ (.slice (some ⟨g, 0, none⟩) 256 c2)).drew = Y at *
      obtain ⟨y0, y1⟩ := hdY
      have hkeep : ∀ v : Value, ∀ A0 l0, RImgs wr (andOwn (orAt F2 w.heap.size) v) A0 k l0 → RImgs Y F2 A0 k l0 := fun v A0 l0 him => him.keep (by rw [hszY]; exact hb2.size) (fun r _ hn hf => hn (.inl (.inl hf))) (fun r hr hn => (hother r (fun e => hn (.inl (.inr e)))).trans (hb2.block r hr))
      have HF := Lib.hid (show Below w.heap.size w Y ∧ RImgs Y F2 A1 k (atSlots 0 (packs (seq + 1) l)) ∧ RImgs Y F2 A2 k (atHomes (pagesOf S.n) (packs (seq + 1) l)) ∧ 256 ≤ c2 ∧ w.heap.size ≤ g ∧ RB Y Y.heap.size (some ⟨g, 0, none⟩) 256 (secL k (seq + 1) zpage) from ⟨hbY, hkeep _ _ _ HIM1.out.1, hkeep _ _ _ HIM1.out.2, hc2, by have := hb.size; omega, hr2.there (by decide) (hother g (by omega)) (by omega)⟩)
      have HE := Lib.hid (And.intro e1 e2)
      clear hX2 hr2 hc2 hg2 hb2 hbY hother hszY hkeep e1 e2
      go_wp2
      refine bodyPost_ret (v := .tuple #[.slice A1 (atSlots 0 ((packs (seq + 1) l).take k)).length q1, .agg #[.int .i64 0, .slice (some ⟨g, 0, none⟩) 256 c2], .slice A2 (atHomes (pagesOf S.n) ((packs (seq + 1) l).take k)).length q2, .int .i64 0]) (by
        simp [results, Tryz.results153, go_sem, y0, y1]) rfl ?_
      rw [HE.out.1, HE.out.2]
      exact ⟨HF.out.1, A1, q1, g, c2, A2, q2, rfl, HF.out.2⟩
end

end Go.Proofs.YtinhdimalhfgkaaGreatDoor

/-
  Contract of the program's Commit, over any disk that answers as it is to. Conditions: at most 65,536 images of bytes; a seq from 0 to 2^62 - 1; fewer than 2^63 - 1 writes; the table that crc.Step reads holds what the program's text lays in it, apart from the disk and the log.
-/
namespace Go.Proofs.YtinhdimalhfgkaaGreatDoor
open Go.RowKit
set_option maxRecDepth 100000
set_option linter.unusedVariables false

/-! what commitS is, arm by arm -/
section
variable {S : DS} {seq : Int} {l : List (Int × List Int)}
/-- What comes behind the slots. -/
def commitM (S3 : DS) (seq : Int) (l : List (Int × List Int)) : Int × Int × DS :=
  if (markS S3 l.length (seq + 1)).1 ≠ 0 then ((markS S3 l.length (seq + 1)).1, seq, (markS S3 l.length (seq + 1)).2) else
  ((homesS (markS S3 l.length (seq + 1)).2 (packs (seq + 1) l)).1, seq + 1, (homesS (markS S3 l.length (seq + 1)).2 (packs (seq + 1) l)).2)
/-- What comes behind the test of images. -/
def commitP (S : DS) (seq : Int) (l : List (Int × List Int)) : Int × Int × DS :=
  if (putS S (atSlots 0 (packs (seq + 1) l))).1 ≠ 0 then ((putS S (atSlots 0 (packs (seq + 1) l))).1, seq, (putS S (atSlots 0 (packs (seq + 1) l))).2) else
  commitM (putS S (atSlots 0 (packs (seq + 1) l))).2 seq l
theorem commitS_is (h1 : rightE S l = 0) (h2 : l ≠ []) : commitS S seq l = commitP S seq l := by
  unfold rightE at h1
  by_cases ha : (l.length : Int) > S.P
  · rw [if_pos ha] at h1; cases h1
  rw [if_neg ha] at h1
  by_cases hb : rightS S l
  · unfold commitS commitP
    rw [if_neg ha, if_neg (fun h => h hb), if_neg h2, putS_slots]
    rfl
  · rw [if_neg hb] at h1; cases h1
theorem commitS_not (h : rightE S l ≠ 0 ∨ l = []) : commitS S seq l = (rightE S l, seq, S) := by
  unfold rightE at *
  unfold commitS
  by_cases ha : (l.length : Int) > S.P
  · rw [if_pos ha, if_pos ha]
  rw [if_neg ha] at h ⊢
  rw [if_neg ha]
  by_cases hb : rightS S l
  · rw [if_pos hb] at h ⊢
    rw [if_neg (fun h => h hb), if_pos (h.resolve_left (fun h => h rfl))]
  · rw [if_neg hb, if_pos hb]
theorem right_is (h : rightE S l = 0) : rightS S l ∧ (l.length : Int) ≤ S.P := by
  unfold rightE at h
  by_cases ha : (l.length : Int) > S.P
  · rw [if_pos ha] at h; cases h
  rw [if_neg ha] at h
  by_cases hb : rightS S l
  · exact ⟨hb, by omega⟩
  · rw [if_neg hb] at h; cases h
end

theorem putS_more (l : List (Int × List Int)) : ∀ S : DS, (putS S l).2.writes ≤ S.writes + l.length ∧ (putS S l).2.n = S.n := by
  induction l with
  | nil =>
    intro S
    refine ⟨?_, P_flush S⟩
    show S.flush.writes ≤ _
    unfold DS.flush
    split <;> simp
  | cons y r ih =>
    intro S
    rw [putS_cons]
    have h1 := write_more S y.1 y.2
    by_cases h : (S.wr y.1 y.2).1 = 0
    · rw [thenS_ok h]
      have h2 := ih (S.wr y.1 y.2).2
      have e1 : (S.wr y.1 y.2).2.writes ≤ S.writes + 1 := h1.1
      have e2 : (S.wr y.1 y.2).2.n = S.n := h1.2
      rw [List.length_cons]
      exact ⟨by omega, h2.2.trans e2⟩
    · rw [thenS_no h, List.length_cons]
      exact ⟨by have : (S.wr y.1 y.2).2.writes ≤ S.writes + 1 := h1.1; omega, h1.2⟩
theorem mark_put (S : DS) {c s : Int} (h : secR c s = true) : putS S [(0, secL c s zpage)] = markS S c s := (markS_sec S h).symm
theorem PLog.store {w : World} {q : Nat} {p : Addr} {seq : Int} (h : PLog w q p seq) (z : Int) : PLog (w.setCell ⟨q, 1, none⟩ (.int .i64 z)) q p z := by
  unfold PLog at *
  simp [World.setCell, Array.getElem?_modify, h]

theorem RImgs.weaken {w : World} {G G' : Nat → Prop} {A : Option Addr} {n : Nat} {l : List (Int × List Int)} (h : RImgs w G A n l) (hG : ∀ k, G' k → G k) : RImgs w G' A n l := h.keep (Nat.le_refl _) (fun k _ hn hg => hn (hG k hg)) (fun _ _ _ => rfl)
theorem RImgs.below {w w' : World} {G : Nat → Prop} {A : Option Addr} {n : Nat} {l : List (Int × List Int)} (h : RImgs w G A n l) (hb : Below w.heap.size w w') : RImgs w' G A n l := h.keep hb.size (fun _ _ h => h) (fun k hk _ => hb.block k hk)

section
variable {D : World → (Nat → Prop) → Addr → DS → Prop} {w : World} {F : Nat → Prop} {p : Addr} {S : DS} {q : Nat} {seq : Int}

/-- Kept over a call that writes to the disk alone. -/
theorem RImgs.touchQ {w1 w2 : World} {F1 F2 : Nat → Prop} {A : Option Addr} {n : Nat} {l : List (Int × List Int)} (h : RImgs w1 (orAt F1 q) A n l) (ht : Touch F1 w1 w2) (hF : ∀ k, F2 k → F1 k ∨ w1.heap.size ≤ k) : RImgs w2 (orAt F2 q) A n l :=
  h.keep ht.size (fun k hk hn hf => by
    rcases hf with a | a
    · rcases hF k a with b | b
      · exact hn (.inl b)
      · omega
    · exact hn (.inr a)) (fun k hk hn => ht.block k hk (fun hf => hn (.inl hf)))

/-- What Commit leaves: the disk, and the log with its seq. -/
def CommittedD (D : World → (Nat → Prop) → Addr → DS → Prop) (w : World) (F : Nat → Prop) (p : Addr) (q : Nat) (r : Int × Int × DS) (w' : World) : Prop :=
  ∃ F', D w' F' p r.2.2 ∧ PLog w' q p r.2.1 ∧ ¬ F' q ∧ Touch (orAt F q) w w' ∧ ∀ k, F' k → F k ∨ w.heap.size ≤ k
theorem CommittedD.of {w' : World} {S' : DS} {e : Int} (hq : PLog w q p seq) (hqF : ¬ F q) (h : WroteD D w F p S' w') : CommittedD D w F p q (e, seq, S') w' := by
  obtain ⟨F', h1, h2, h3⟩ := h
  have hlt := hq.cells.2.2.2
  refine ⟨F', h1, hq.keep (h2.block q hlt hqF), fun hf => ?_, ⟨h2.os, h2.tape, h2.output, h2.size, fun k hk hF => h2.block k hk (fun hg => hF (.inl hg))⟩, h3⟩
  rcases h3 q hf with a | a
  · exact hqF a
  · omega

set_option maxHeartbeats 8000000 in
theorem commit_any (api : DiskApi D) (h : D w F p S) (hq : PLog w q p seq) (hqF : ¬ F q) (ht : TabF w F) {A : Option Addr} {n c : Nat} {l : List (Int × List Int)} (hl : RImgs w (orAt F q) A n l) (hby : ∀ y ∈ l, AllBytes y.2) (hin : ∀ y ∈ l, -9223372036854775808 ≤ y.1 ∧ y.1 ≤ 9223372036854775807) (hn : n ≤ 65536) (hs : 0 ≤ seq ∧ seq < 4611686018427387904) (hw : S.writes ≤ 9223372036854500000) :
    Calls Tryz.prog 93 #[.pointer (some ⟨q, 0, none⟩), .slice A n c] w fun e w' => e = .returned (.int .i64 (commitS S seq l).1) ∧ CommittedD D w F p q (commitS S seq l) w' := by
  have hlen := hl.1
  have hok := api.ok _ _ _ _ h
  have hlt := api.lt _ _ _ _ h
  have hsz := hok.size
  have hpb := pagesOf_bounds (S.n : Int)
  have HRT := Lib.hid (right_any (c := c) api h hq hl hin hn)
  have HD := Lib.hid (And.intro h (And.intro hq (And.intro ht hl)))
  have HF1 := Lib.hid (fun w1 hb e => CommittedD.of (e := e) hq hqF (WroteD.later (w1 := w1) api h hb))
  by_cases hr : rightE S l = 0
  · have HR0 := Lib.hid hr
    by_cases hn0 : n = 0
    · have hl0 : l = [] := List.eq_nil_of_length_eq_zero (by omega)
      have HC := Lib.hid (commitS_not (S := S) (seq := seq) (l := l) (.inr hl0))
      subst hn0
      clear hr h hq ht hl hl0 hlen
      go_enter Tryz.func93, Tryz.ntmps93
      go_wp2_with fail
      refine HRT.out.mono ?_
      rw [HR0.out]
      rintro e w1 ⟨rfl, hb⟩
      have hF := Lib.hid (HF1.out w1 hb 0)
      clear hb
      go_wp2
      go_ret
      rw [HC.out, HR0.out]
      exact ⟨rfl, hF.out⟩
    · obtain ⟨hrs, hnP⟩ := right_is hr
      have hP : S.P = pagesOf S.n := rfl
      have hne : l ≠ [] := fun e => hn0 (by rw [← hlen, e]; rfl)
      have HI : Imgs S.n seq l := ⟨fun y hy => by have := hrs.1 y hy; rw [hP] at this; exact this, hby, hrs.2, by omega, hs.1, hs.2⟩
      have HC := Lib.hid (show commitS S seq l = commitP S seq l from commitS_is hr hne)
      have HPC := Lib.hid (fun w1 (hb : Below w.heap.size w w1) => pieces_any (c := c) (F2 := orAt F q) api (api.below h hb) (hq.below hb) (ht.below hb) (fun k hk => by
        rcases hk with a | a
        · have := hlt k a; have := hb.size; omega
        · have := hq.cells.2.2.2; have := hb.size; omega) (hl.below hb) HI hn (by omega))
      have k3 : ((n : Int) == 0) = false := by simp; omega
      have hql := hq.cells.2.2.2
      have HP256 := Lib.hid (show (∀ y ∈ atSlots 0 (packs (seq + 1) l), y.2.length = 256) ∧ (∀ y ∈ atHomes (pagesOf S.n) (packs (seq + 1) l), y.2.length = 256) from ⟨fun y hy => by
          obtain ⟨z, hz, e⟩ := atSlots_snd _ _ y hy
          rw [e]; exact (HI.mem hz).2, fun y hy => by
          obtain ⟨z, hz, rfl⟩ := List.mem_map.1 hy
          exact (HI.mem hz).2⟩)
      have hseqw : wrap64 (seq + 1) = seq + 1 := by unfold wrap64; omega
      have hsecR : secR n (seq + 1) = true := decide_eq_true ⟨by omega, by omega, by omega, by omega⟩
      clear hr h hq ht hl hrs hne HI
      go_enter Tryz.func93, Tryz.ntmps93
      go_wp2_with fail
      refine HRT.out.mono ?_
      rw [HR0.out]
      rintro e w1 ⟨rfl, hb1⟩
      have hpc := HPC.out w1 hb1
      have HB1 := Lib.hid hb1
      clear hb1
      go_wp2_with fail
      refine hpc.mono ?_
      rintro e w2 ⟨hb2, A1, c1, g, cg, A2, c2, rfl, hi1, hi2, hcg, hgw, hrg⟩
      have hb02 := HB1.out.trans (hb2.mono HB1.out.size)
      have hX : Below w2.heap.size w2 (w2.alloc (.cells #[.int .i64 0, .slice (some ⟨g, 0, none⟩) 256 cg] 131)) := (Below.refl _ _).alloc (Nat.le_refl _) _
      have hbX := hb02.trans (hX.mono hb02.size)
      obtain ⟨hD, hq, ht, _⟩ := HD.out
      have hDX := api.below hD hbX
      have hi1X := hi1.below hX
      have hi2X := hi2.below hX
      have hgl : g < w2.heap.size := by obtain ⟨bb, _, e, hbb, _⟩ := hrg.at_ (by decide); cases e; exact hbb
      have hrgX := hrg.there (by decide) (hX.block g hgl) hX.size
      have hqX := hq.below hbX
      obtain ⟨l0, l1, f1, _⟩ := hqX.cells
      have hgo : w.heap.size ≤ g := Nat.le_trans HB1.out.size hgw
      have hw02 := hb02.size
      have hFm : ¬ F w2.heap.size := fun hf => by have := hlt _ hf; omega
      have hFg : ¬ F g := fun hf => by have := hlt _ hf; omega
      have hmc : (w2.alloc (.cells #[.int .i64 0, .slice (some ⟨g, 0, none⟩) 256 cg] 131)).heap[w2.heap.size]? = some (.cells #[.int .i64 0, .slice (some ⟨g, 0, none⟩) 256 cg] 131 (0, 0)) := heap_alloc_new _ _
      have HPUT := Lib.hid (put_any api (c := c1) hDX (hi1X.weaken (fun k hk => .inl hk)) HP256.out.1 hn (by omega))
      have HK := Lib.hid (And.intro hbX (And.intro hi2X (And.intro hrgX (And.intro hqX (And.intro hmc (And.intro hFm (And.intro hFg hcg)))))))
      have hXs : (w2.alloc (.cells #[.int .i64 0, .slice (some ⟨g, 0, none⟩) 256 cg] 131)).heap.size = w2.heap.size + 1 := by simp
      clear hb2 hX hbX hD hq ht hDX hi1 hi2 hi1X hi2X hrg hrgX hqX hmc hFm hFg hcg hpc hb02
      go_wp2_with fail
      by_cases h0 : (putS S (atSlots 0 (packs (seq + 1) l))).1 = 0
      · obtain ⟨hm1, hm2⟩ := putS_more (atSlots 0 (packs (seq + 1) l)) S
        rw [atSlots_length, packs_length] at hm1
        have H0 := Lib.hid h0
        refine HPUT.out.mono ?_
        rw [h0]
        rintro e w3 ⟨rfl, F3, d3, t3, n3⟩
        obtain ⟨hbX, hi2X, hrgX, hqX, hmc, hFm, hFg, hcg⟩ := HK.out
        have T3 : Touch F w w3 := (Touch.of_below hbX).join (fun k hk => .inl hk) t3
        have N3 : ∀ k, F3 k → F k ∨ w.heap.size ≤ k := new_join hbX.size (fun k hk => .inl hk) n3
        have hq3 : PLog w3 q p seq := hqX.keep (t3.block q hqX.cells.2.2.2 hqF)
        have hi23 := hi2X.touchQ t3 n3
        have hgX := (show g < (w2.alloc (.cells #[.int .i64 0, .slice (some ⟨g, 0, none⟩) 256 cg] 131)).heap.size by omega)
        have hrg3 := hrgX.there (by decide) (t3.block g hgX hFg) t3.size
        have hmc3 := (t3.block w2.heap.size (by omega) hFm).trans hmc
        have hF3g : ¬ F3 g := fun hf => by
          rcases n3 g hf with a | a
          · exact hFg a
          · omega
        have hF3q : ¬ F3 q := fun hf => by
          rcases n3 q hf with a | a
          · exact hqF a
          · have := hqX.cells.2.2.2; omega
        have hlt3 := api.lt _ _ _ _ d3
        have hX3 : Below w3.heap.size w3 (w3.alloc (.cells #[.int .i64 0, .slice (some ⟨g, 0, none⟩) 256 cg] 131)).drew := ((Below.refl _ _).alloc (Nat.le_refl _) _).drew
        have hg3 : g < w3.heap.size := Nat.lt_of_lt_of_le hgX t3.size
        have HPUT2 := Lib.hid (put_any api (c := 1) (api.below d3 hX3) (RImgs.one (show (w3.alloc (.cells #[.int .i64 0, .slice (some ⟨g, 0, none⟩) 256 cg] 131)).drew.heap[w3.heap.size]? = some (.cells #[.int .i64 0, .slice (some ⟨g, 0, none⟩) 256 cg] 131 (0, 0)) from heap_alloc_new _ _) (fun hf => by have := hlt3 _ hf; omega) hF3g hcg (by decide) (hrg3.there (by decide) (hX3.block g hg3) hX3.size)) (fun y hy => by obtain rfl := List.mem_singleton.1 hy; exact (secL_length ..).trans (by rw [zpage_ok.1])) (by decide) (by omega))
        rw [mark_put _ hsecR] at HPUT2
        obtain ⟨l0, l1, f1, _⟩ := hq3.cells
        have m0 : w3.cell? ⟨w2.heap.size, 0, none⟩ = some (.int .i64 0) := by rw [cell_of_row w3 _ 0 _ _ (0, 0) hmc3]; rfl
        have m1 : w3.cell? ⟨w2.heap.size, 1, none⟩ = some (.slice (some ⟨g, 0, none⟩) 256 cg) := by rw [cell_of_row w3 _ 1 _ _ (0, 0) hmc3]; rfl
        have hF3m : ¬ F3 w2.heap.size := fun hf => by
          rcases n3 _ hf with a | a
          · exact hFm a
          · omega
        have hm3 : w2.heap.size < w3.heap.size := Nat.lt_of_lt_of_le (by omega) t3.size
        have HC3 := Lib.hid (show (w3.alloc (.cells #[.int .i64 0, .slice (some ⟨g, 0, none⟩) 256 cg] 131)).drew.cell? ⟨q, 0, none⟩ = some (.pointer (some p)) ∧ (w3.alloc (.cells #[.int .i64 0, .slice (some ⟨g, 0, none⟩) 256 cg] 131)).drew.cell? ⟨w2.heap.size, 0, none⟩ = some (.int .i64 0) ∧ (w3.alloc (.cells #[.int .i64 0, .slice (some ⟨g, 0, none⟩) 256 cg] 131)).drew.cell? ⟨w2.heap.size, 1, none⟩ = some (.slice (some ⟨g, 0, none⟩) 256 cg) from ⟨(hX3.cell (p := ⟨q, 0, none⟩) hq3.cells.2.2.2).trans l0, (hX3.cell (p := ⟨w2.heap.size, 0, none⟩) hm3).trans m0, (hX3.cell (p := ⟨w2.heap.size, 1, none⟩) hm3).trans m1⟩)
        have hs33 : w3.heap.size ≤ (w3.alloc (.cells #[.int .i64 0, .slice (some ⟨g, 0, none⟩) 256 cg] 131)).drew.heap.size := hX3.size
        have HC5 := Lib.hid (fun (w5 : World) (t5 : Touch F3 (w3.alloc (.cells #[.int .i64 0, .slice (some ⟨g, 0, none⟩) 256 cg] 131)).drew w5) => show w5.cell? ⟨q, 0, none⟩ = some (.pointer (some p)) ∧ w5.cell? ⟨w2.heap.size, 0, none⟩ = some (.int .i64 0) ∧ w5.cell? ⟨w2.heap.size, 1, none⟩ = some (.slice (some ⟨g, 0, none⟩) 256 cg) from ⟨(World.cell?_of_block (a := ⟨q, 0, none⟩) (t5.block q (Nat.lt_of_lt_of_le hq3.cells.2.2.2 hs33) hF3q)).trans HC3.out.1, (World.cell?_of_block (a := ⟨w2.heap.size, 0, none⟩) (t5.block _ (Nat.lt_of_lt_of_le hm3 hs33) hF3m)).trans HC3.out.2.1, (World.cell?_of_block (a := ⟨w2.heap.size, 1, none⟩) (t5.block _ (Nat.lt_of_lt_of_le hm3 hs33) hF3m)).trans HC3.out.2.2⟩)
        have HC5W := Lib.hid (fun (w5 : World) (S5 : DS) (hW : WroteD D (w3.alloc (.cells #[.int .i64 0, .slice (some ⟨g, 0, none⟩) 256 cg] 131)).drew F3 p S5 w5) => HC5.out w5 (by obtain ⟨_, _, t5, _⟩ := hW; exact t5))
        have HK3 := Lib.hid (And.intro T3 (And.intro N3 (And.intro hq3 (And.intro hi23 (And.intro hX3 hF3q)))))
        have hP3 : (putS S (atSlots 0 (packs (seq + 1) l))).2.P = pagesOf S.n := by unfold DS.P; rw [hm2]
        have HCP2 := Lib.hid (show commitP S seq l = commitM (putS S (atSlots 0 (packs (seq + 1) l))).2 seq l from if_neg (fun h => h h0))
        clear h0 d3 t3 n3 hbX hi2X hrgX hqX hmc hFm hFg hcg T3 N3 hq3 hi23 hrg3 hmc3 hF3g hX3 HPUT HK hlt3 hF3q hgX hg3 hF3m hm3 hs33
        generalize (putS S (atSlots 0 (packs (seq + 1) l))).2 = S3 at *
        go_wp2_with fail
        by_cases h1 : (markS S3 n (seq + 1)).1 = 0
        · have H1 := Lib.hid h1
          go_region_held3 (fun w' => w'.cell? ⟨q, 0, none⟩ = some (.pointer (some p)) ∧ w'.cell? ⟨w2.heap.size, 0, none⟩ = some (.int .i64 0) ∧ w'.cell? ⟨w2.heap.size, 1, none⟩ = some (.slice (some ⟨g, 0, none⟩) 256 cg))
            (first | exact ⟨l0, m0, m1⟩ | exact HC3.out | exact c5)
            ((go_at_call 78; refine HPUT2.out.mono ?_; rw [H1.out]; rintro e w5 ⟨rfl, F5, d5, t5, n5⟩; have c5 := HC5.out w5 t5))
          clear c5 HC5 HC5W HC3
          obtain ⟨T3, N3, hq3, hi23, hX3, hF3q⟩ := HK3.out
          have T5 : Touch F w w5 := T3.join N3 ((Touch.of_below hX3).join (fun k hk => .inl hk) t5)
          have N5 : ∀ k, F5 k → F k ∨ w.heap.size ≤ k := new_join T3.size N3 (new_join hX3.size (fun k hk => .inl hk) n5)
          have hq5 : PLog w5 q p seq := (hq3.below hX3).keep (t5.block q (hq3.below hX3).cells.2.2.2 hF3q)
          have hi25 := (hi23.below hX3).touchQ t5 n5
          have hF5q : ¬ F5 q := fun hf => by
            rcases n5 q hf with a | a
            · exact hF3q a
            · have := (hq3.below hX3).cells.2.2.2; omega
          have d6 := api.keep w5 (w5.setCell ⟨q, 1, none⟩ (.int .i64 (seq + 1))) F5 p _ d5 (fun k hk => Below.heap_setCell _ _ _ _ (fun e => hF5q (by have : k = q := e; rw [← this]; exact hk)))
          have hi26 : RImgs (w5.setCell ⟨q, 1, none⟩ (.int .i64 (seq + 1))) F5 A2 n (atHomes (pagesOf S.n) (packs (seq + 1) l)) := hi25.keep (by simp) (fun k _ hn hf => hn (.inl hf)) (fun k _ hn => Below.heap_setCell _ _ _ _ (fun e => hn (.inr e)))
          have hmk := putS_more [(0, secL n (seq + 1) zpage)] S3
          rw [mark_put _ hsecR] at hmk
          have hPM : (markS S3 n (seq + 1)).2.P = pagesOf S.n := by unfold DS.P; rw [hmk.2, ← hP3]; rfl
          have HPUT3 := Lib.hid (put_any api (c := c2) d6 hi26 HP256.out.2 hn (by have := hmk.1; simp at this; omega))
          have hph := putS_homes (packs (seq + 1) l) (markS S3 n (seq + 1)).2
          rw [hPM] at hph
          rw [hph] at HPUT3
          obtain ⟨l0, l1, f1, _⟩ := hq5.cells
          have l06 : (w5.setCell ⟨q, 1, none⟩ (.int .i64 (seq + 1))).cell? ⟨q, 0, none⟩ = some (.pointer (some p)) := (World.cell?_setCell_other _ ⟨q, 1, none⟩ ⟨q, 0, none⟩ _ (by simp)).trans l0
          have HCP3 := Lib.hid (show commitM S3 seq l = ((homesS (markS S3 n (seq + 1)).2 (packs (seq + 1) l)).1, seq + 1, (homesS (markS S3 n (seq + 1)).2 (packs (seq + 1) l)).2) from by
            unfold commitM
            rw [hlen, if_neg (fun h => h h1)])
          have HK5 := Lib.hid (And.intro T5 (And.intro N5 (And.intro (hq5.store (seq + 1)) hF5q)))
          clear T3 N3 hq3 hi23 hX3 hF3q T5 N5 hq5 hi25 hF5q d5 d6 hi26 t5 n5 h1 HPUT2 HK3 hph hPM hmk m0 m1
          go_wp2_with fail
          refine HPUT3.out.mono ?_
          rintro e w7 ⟨rfl, F7, d7, t7, n7⟩
          obtain ⟨T5, N5, hq6, hF5q⟩ := HK5.out
          have hF := Lib.hid (show CommittedD D w F p q ((homesS (markS S3 n (seq + 1)).2 (packs (seq + 1) l)).1, seq + 1, (homesS (markS S3 n (seq + 1)).2 (packs (seq + 1) l)).2) w7 from
            ⟨F7, d7, hq6.keep (t7.block q hq6.cells.2.2.2 hF5q), fun hf => by
              rcases n7 q hf with a | a
              · exact hF5q a
              · have := hq6.cells.2.2.2; omega, ⟨t7.os.trans T5.os, t7.tape.trans T5.tape, t7.output.trans T5.output, by have := T5.size; have := t7.size; simp at this; omega, fun k hk hn => (t7.block k (by have := T5.size; simp; omega) (fun hf => by
                rcases N5 k hf with a | a
                · exact hn (.inl a)
                · omega)).trans ((Below.heap_setCell _ _ _ _ (fun e => hn (.inr e))).trans (T5.block k hk (fun hf => hn (.inl hf))))⟩, new_join T5.size N5 (fun k hk => (n7 k hk).imp id (fun a => by simpa using a))⟩)
          clear T5 N5 hq6 hF5q d7 t7 n7
          go_wp2
          go_ret
          rw [HC.out, HCP2.out, HCP3.out]
          exact ⟨rfl, hF.out⟩
        · have KN := Lib.hid (show ((markS S3 n (seq + 1)).1 != 0) = true by simpa using h1)
          have HCP3 := Lib.hid (show commitM S3 seq l = ((markS S3 n (seq + 1)).1, seq, (markS S3 n (seq + 1)).2) from by
            unfold commitM
            rw [hlen, if_pos h1])
          clear h1
          go_region_held3 (fun w' => w'.cell? ⟨q, 0, none⟩ = some (.pointer (some p)) ∧ w'.cell? ⟨w2.heap.size, 0, none⟩ = some (.int .i64 0) ∧ w'.cell? ⟨w2.heap.size, 1, none⟩ = some (.slice (some ⟨g, 0, none⟩) 256 cg))
            (first | exact ⟨l0, m0, m1⟩ | exact HC3.out | exact c5)
            ((go_at_call 78; refine HPUT2.out.mono ?_; rintro e w5 ⟨rfl, hW⟩; have c5 := HC5W.out w5 _ hW))
          have kne := KN.out
          clear c5 HC5 HC5W HC3
          obtain ⟨T3, N3, hq3, hi23, hX3, hF3q⟩ := HK3.out
          have hF := Lib.hid (CommittedD.of (e := (markS S3 n (seq + 1)).1) HD.out.2.1 hqF (WroteD.join T3 N3 (WroteD.join (Touch.of_below hX3) (fun k hk => .inl hk) hW)))
          clear hW T3 N3 hq3 hi23 hX3 hF3q
          go_wp2
          go_ret
          rw [HC.out, HCP2.out, HCP3.out]
          exact ⟨rfl, hF.out⟩
      · have KN := Lib.hid (show ((putS S (atSlots 0 (packs (seq + 1) l))).1 != 0) = true by simpa using h0)
        have HCP2 := Lib.hid (show commitP S seq l = ((putS S (atSlots 0 (packs (seq + 1) l))).1, seq, (putS S (atSlots 0 (packs (seq + 1) l))).2) from if_pos h0)
        clear h0
        refine HPUT.out.mono ?_
        rintro e w3 ⟨rfl, hW⟩
        have kne := KN.out
        have hF := Lib.hid (CommittedD.of (e := (putS S (atSlots 0 (packs (seq + 1) l))).1) HD.out.2.1 hqF (WroteD.join (Touch.of_below HK.out.1) (fun k hk => .inl hk) hW))
        clear hW
        go_wp2
        go_ret
        rw [HC.out, HCP2.out]
        exact ⟨rfl, hF.out⟩
  · have k1 : (rightE S l != 0) = true := by simpa using hr
    have HC := Lib.hid (commitS_not (S := S) (seq := seq) (l := l) (.inl hr))
    have K1 := Lib.hid k1
    clear hr h hq ht hl k1
    go_enter Tryz.func93, Tryz.ntmps93
    go_wp2_with fail
    refine HRT.out.mono ?_
    rintro e w1 ⟨rfl, hb⟩
    have hF := Lib.hid (HF1.out w1 hb (rightE S l))
    have k1 := K1.out
    clear hb
    go_wp2
    go_ret
    rw [HC.out]
    exact ⟨rfl, hF.out⟩
end

end Go.Proofs.YtinhdimalhfgkaaGreatDoor

/-
  Plain: a log of a disk on which nothing fails: Format, Open and Commit succeed, how many sectors they write, and what the pages are then. No program.
-/
namespace Go.Proofs.YtinhdimalhfgkaaGreatDoor
open Go.RowKit
set_option maxRecDepth 100000
set_option linter.unusedVariables false

theorem pageIn_len (n : Int) (f : Nat → List Int) (p : Int) : (pageIn n f p).length = 240 := by
  unfold pageIn
  by_cases h : (unpackR (f (p + 1 + pagesOf n).toNat)).2.2.2 ≠ 0 ∨ (unpackR (f (p + 1 + pagesOf n).toNat)).1 ≠ p
  · rw [if_pos h]; exact zpage_ok.1
  · rw [if_neg h]
    have h0 : (unpackR (f (p + 1 + pagesOf n).toNat)).2.2.2 = 0 := Classical.not_not.1 (fun e => h (.inl e))
    generalize f (p + 1 + pagesOf n).toNat = l at h0 ⊢
    have hl := (unpack_page h0).2.2
    unfold unpackR at h0 ⊢
    by_cases hs : isSec l
    · rw [if_pos hs]
      show (l.drop 16).length = 240
      rw [List.length_drop, hl]
    · rw [if_neg hs] at h0; cases h0

section
variable {S : DS} {f g : Nat → List Int} {n seq : Int}

theorem Free.write_count (h : Free S) {i : Int} {l : List Int} (hi : 0 ≤ i ∧ i < S.n) (hl : l.length = 256) : (S.write i l).writes = S.writes + 1 := by
  obtain ⟨e, _⟩ := h.write hi hl
  rw [(write_done e).2]
  rfl
theorem Free.put (l : List (Int × List Int)) : ∀ {S : DS}, Free S → (∀ x ∈ l, (0 ≤ x.1 ∧ x.1 < S.n) ∧ x.2.length = 256) → (putS S l).1 = 0 ∧ Free (putS S l).2 ∧ (putS S l).2.writes = S.writes + l.length := by
  induction l with
  | nil =>
    intro S h _
    obtain ⟨h1, h2⟩ := h.flush
    refine ⟨h1, h2, ?_⟩
    show S.flush.writes = _
    rw [(flush_done h1).2]; rfl
  | cons x r ih =>
    intro S h hv
    obtain ⟨v1, v2⟩ := hv _ (List.mem_cons_self ..)
    obtain ⟨h1, h2, h3⟩ := h.write v1 v2
    have h4 := h.write_count v1 v2
    rw [putS_cons, thenS_ok (show (S.wr x.1 x.2).1 = 0 from h1)]
    obtain ⟨q1, q2, q3⟩ := ih (S := (S.wr x.1 x.2).2) h2 (fun y hy => by
      have e : (S.wr x.1 x.2).2.n = S.n := h3
      rw [e]
      exact hv y (List.mem_cons_of_mem _ hy))
    refine ⟨q1, q2, ?_⟩
    rw [q3, List.length_cons, show (S.wr x.1 x.2).2.writes = S.writes + 1 from h4]
    omega

theorem free_mark (h : Free S) (hn : 3 ≤ S.n) {c s : Int} (hs : secR c s = true) : (markS S c s).1 = 0 ∧ Free (markS S c s).2 ∧ (markS S c s).2.n = S.n ∧ (markS S c s).2.writes = S.writes + 1 ∧ Rests (markS S c s).2 (putF S.last 0 (secL c s zpage)) := by
  have hl : (secL c s zpage).length = 256 := by rw [secL_length, zpage_ok.1]
  rw [markS_sec S hs]
  obtain ⟨h1, h2, h3⟩ := h.write (i := 0) (l := secL c s zpage) (by omega) hl
  have h4 := h.write_count (i := 0) (l := secL c s zpage) (by omega) hl
  rw [thenS_ok (show (S.wr 0 (secL c s zpage)).1 = 0 from h1)]
  have hw := (write_done h1).2
  obtain ⟨f1, f2⟩ := h2.flush
  have hf := flush_done f1
  show (S.write 0 (secL c s zpage)).flushE = 0 ∧ Free (S.write 0 (secL c s zpage)).flush ∧ (S.write 0 (secL c s zpage)).flush.n = S.n ∧ (S.write 0 (secL c s zpage)).flush.writes = S.writes + 1 ∧ Rests (S.write 0 (secL c s zpage)).flush (putF S.last 0 (secL c s zpage))
  refine ⟨f1, f2, (P_flush _).trans h3, ?_, ?_⟩
  · rw [hf.2]; exact h4
  · rw [hf.2]
    have e : (S.write 0 (secL c s zpage)).last = putF S.last 0 (secL c s zpage) := by rw [hw]; rfl
    exact ⟨e, e, hf.1⟩

theorem free_commit {l : List (Int × List Int)} (hn : n = S.n) (hn3 : 3 ≤ n) (hI : Imgs n seq l) (hne : l ≠ []) (h : Free S) (hR : Rests S f) :
    (commitS S seq l).1 = 0 ∧ (commitS S seq l).2.1 = seq + 1 ∧ Free (commitS S seq l).2.2 ∧ (commitS S seq l).2.2.n = S.n ∧ (commitS S seq l).2.2.writes = S.writes + (2 * l.length + 1) ∧ Rests (commitS S seq l).2.2 (putH n (marked f seq l) (packs (seq + 1) l)) := by
  obtain ⟨g1, g2⟩ := commit_leaves hn hI hne hR
  have hP : S.P = pagesOf n := by unfold DS.P; rw [hn]
  have hpn := (pagesOf_nn n).2.1 hn3
  have h4 := (pagesOf_nn n).2.2
  have hright : rightS S l := ⟨fun x hx => by rw [hP]; exact hI.page x hx, hI.once⟩
  have hfew := hI.few
  have h0 := hI.seq0
  have h1 := hI.seq1
  have he : rightE S l = 0 := by unfold rightE; rw [if_neg (by rw [hP]; omega), if_pos hright]
  have hsec : secR l.length (seq + 1) = true := decide_eq_true ⟨by omega, by omega, by omega, by omega⟩
  rw [commitS_is he hne] at g1 g2 ⊢
  have hsl : ∀ (l' : List (Int × List Int)) (i : Nat), ((i : Int) + l'.length + 1 ≤ S.n) → (∀ x ∈ l', x.2.length = 256) → ∀ x ∈ atSlots i l', (0 ≤ x.1 ∧ x.1 < S.n) ∧ x.2.length = 256 := by
    intro l'
    induction l' with
    | nil => intro i _ _ x hx; cases hx
    | cons y r ih =>
      intro i hi hy x hx
      simp only [List.length_cons] at hi
      rcases List.mem_cons.1 hx with rfl | hx
      · exact ⟨⟨by show 0 ≤ (i : Int) + 1; omega, by show (i : Int) + 1 < S.n; omega⟩, hy y (List.mem_cons_self ..)⟩
      · exact ih (i + 1) (by omega) (fun z hz => hy z (List.mem_cons_of_mem _ hz)) x hx
  obtain ⟨p1, p2, p3⟩ := h.put (atSlots 0 (packs (seq + 1) l)) (hsl _ 0 (by rw [packs_length]; omega) (fun x hx => (hI.mem hx).2))
  have p4 := (putS_more (atSlots 0 (packs (seq + 1) l)) S).2
  rw [atSlots_length, packs_length] at p3
  have ec : commitP S seq l = commitM (putS S (atSlots 0 (packs (seq + 1) l))).2 seq l := if_neg (fun e => e p1)
  obtain ⟨m1, m2, m3, m4, _⟩ := free_mark p2 (by rw [p4]; omega) hsec
  have em : commitM (putS S (atSlots 0 (packs (seq + 1) l))).2 seq l = _ := if_neg (fun e => e m1)
  have hPM : (markS (putS S (atSlots 0 (packs (seq + 1) l))).2 l.length (seq + 1)).2.P = pagesOf n := by unfold DS.P; rw [m3, p4, hn]
  obtain ⟨q1, q2, q3⟩ := m2.put (atHomes (pagesOf n) (packs (seq + 1) l)) (fun x hx => by
    obtain ⟨z, hz, rfl⟩ := List.mem_map.1 hx
    obtain ⟨⟨a, b⟩, c⟩ := hI.mem hz
    refine ⟨⟨by show 0 ≤ z.1 + 1 + pagesOf n; omega, ?_⟩, c⟩
    show z.1 + 1 + pagesOf n < _
    rw [m3, p4]; omega)
  have hph := putS_homes (packs (seq + 1) l) (markS (putS S (atSlots 0 (packs (seq + 1) l))).2 l.length (seq + 1)).2
  rw [hPM] at hph
  rw [hph] at q1 q2 q3
  have eall : commitP S seq l = ((homesS (markS (putS S (atSlots 0 (packs (seq + 1) l))).2 l.length (seq + 1)).2 (packs (seq + 1) l)).1, seq + 1, (homesS (markS (putS S (atSlots 0 (packs (seq + 1) l))).2 l.length (seq + 1)).2 (packs (seq + 1) l)).2) := ec.trans em
  rw [eall] at g1 g2 ⊢
  refine ⟨q1, rfl, q2, g1, ?_, ?_⟩
  · show (homesS _ _).2.writes = _
    rw [q3, m4, p3]
    simp [atHomes, packs_length]
    omega
  · rcases g2 with ⟨a, _⟩ | ⟨_, b⟩
    · exact absurd q1 a
    · exact b q1

theorem putH_at (l : List (Int × List Int)) : ∀ {f : Nat → List Int}, (l.map (·.1)).Nodup → (∀ x ∈ l, 0 ≤ x.1) → 0 ≤ pagesOf n → ∀ x ∈ l, putH n f l (x.1 + 1 + pagesOf n).toNat = x.2 := by
  induction l with
  | nil => intro f _ _ _ x hx; cases hx
  | cons y r ih =>
    intro f hnd h0 hn x hx
    rw [List.map_cons, List.nodup_cons] at hnd
    show putH n (putF f _ y.2) r _ = x.2
    rcases List.mem_cons.1 hx with rfl | hx
    · rw [putH_far r _ (fun z hz e => by
        have a := h0 x (List.mem_cons_self ..)
        have b := h0 z (List.mem_cons_of_mem _ hz)
        exact hnd.1 (List.mem_map.2 ⟨z, hz, by omega⟩)), putF, if_pos rfl]
    · exact ih hnd.2 (fun z hz => h0 z (List.mem_cons_of_mem _ hz)) hn x hx

/-- The pages behind a commit. -/
theorem pages_marked {l : List (Int × List Int)} (hI : Imgs n seq l) : (∀ x ∈ l, pageIn n (putH n (marked f seq l) (packs (seq + 1) l)) x.1 = x.2) ∧ ∀ p, 0 ≤ p → p < pagesOf n → (∀ x ∈ l, x.1 ≠ p) → pageIn n (putH n (marked f seq l) (packs (seq + 1) l)) p = pageIn n f p := by
  have hnn := (pagesOf_nn n).1
  have hfst : (packs (seq + 1) l).map (·.1) = l.map (·.1) := by unfold packs; rw [List.map_map]; rfl
  refine ⟨fun x hx => ?_, fun p h0 h1 hno => ?_⟩
  · obtain ⟨e1, e2, e3⟩ := hI.pack hx
    have hm : (x.1, (packR x.1 (seq + 1) x.2).1) ∈ packs (seq + 1) l := List.mem_map.2 ⟨x, hx, rfl⟩
    have := putH_at (n := n) (packs (seq + 1) l) (f := marked f seq l) (by rw [hfst]; exact hI.once) (fun z hz => (hI.mem hz).1.1) hnn _ hm
    unfold pageIn
    rw [show putH n (marked f seq l) (packs (seq + 1) l) (x.1 + 1 + pagesOf n).toNat = secL x.1 (seq + 1) x.2 from this.trans e1, e2, if_neg (by simp)]
  · have e : putH n (marked f seq l) (packs (seq + 1) l) (p + 1 + pagesOf n).toNat = f (p + 1 + pagesOf n).toNat := by
      rw [putH_far _ _ (fun z hz e => by
        have a := (hI.mem hz).1.1
        obtain ⟨x, hx, e2⟩ := List.mem_map.1 hz
        have : x.1 = z.1 := by rw [← e2]
        exact hno x hx (by omega))]
      exact (view_marked hI).2.2 _ (by omega)
    unfold pageIn
    rw [e]
end

/-- A log that was just made. -/
def fresh1 : Nat → List Int := putF (fun _ => nought) 0 (secL 0 1 zpage)
theorem fresh1_mark : unpackR (fresh1 0) = (0, 1, zpage, 0) := by
  unfold fresh1 putF
  rw [if_pos rfl]
  exact unpack_pack zpage_ok.2 (by decide) zpage_ok.1
theorem fresh1_opened (n : Int) : listed n fresh1 = some [] ∧ opened n fresh1 = fresh1 := by
  have hnn := (pagesOf_nn n).1
  have e : listed n fresh1 = some [] := by
    unfold listed
    rw [fresh1_mark]
    exact slotsOf_of hnn rfl
  exact ⟨e, opened_some e⟩
theorem fresh_log {m : Nat} (h : 3 ≤ m ∧ m ≤ 65536) : (markS (DS.new m) 0 1).1 = 0 ∧ (openS (markS (DS.new m) 0 1).2).1 = 0 ∧ (openS (markS (DS.new m) 0 1).2).2.1 = 1 ∧ Free (openS (markS (DS.new m) 0 1).2).2.2 ∧ (openS (markS (DS.new m) 0 1).2).2.2.n = m ∧ (openS (markS (DS.new m) 0 1).2).2.2.writes = 1 ∧ Rests (openS (markS (DS.new m) 0 1).2).2.2 fresh1 := by
  have hF : Free (DS.new m) := ⟨rfl, rfl⟩
  obtain ⟨h1, h2, h3, h4, h5⟩ := free_mark hF (c := 0) (s := 1) (show 3 ≤ m from h.1) (by decide)
  have h5' : Rests (markS (DS.new m) 0 1).2 fresh1 := h5
  have h3' : (markS (DS.new m) 0 1).2.n = m := h3
  obtain ⟨o1, o2, o3, o4, o5⟩ := open_free (n := (m : Int)) (by rw [h3']) (by omega) h2 h5' (by rw [fresh1_mark])
  rw [fresh1_mark] at o2
  rw [(fresh1_opened _).2] at o3
  refine ⟨h1, o1, o2, o4, o5.trans h3', ?_, o3⟩
  have hw : (markS (DS.new m) 0 1).2.writes = 1 := h4
  generalize hS : (markS (DS.new m) 0 1).2 = S at *
  have hl : S.last = fresh1 := h5'.last
  have e : (openS S).2.2 = (homesS S []).2 := by
    unfold openS
    rw [if_neg (by simp [h2.up]), hl, if_neg (by rw [fresh1_mark]; simp)]
    have hls := (fresh1_opened (m : Int)).1
    unfold listed at hls
    rw [h3', hls]
    simp only []
    rw [if_neg (fun h' => h' (h2.flush.1))]
  rw [e]
  show S.flush.writes = 1
  rw [(flush_done h2.flush.1).2]
  exact hw

end Go.Proofs.YtinhdimalhfgkaaGreatDoor

/-
  A law's own disk and log, worked on call by call, over any disk that answers as it is to. Conditions: those of the contracts; the table that crc.Step reads holds what the program's text lays in it when the law begins.
-/
namespace Go.Proofs.YtinhdimalhfgkaaGreatDoor
open Go.RowKit
set_option maxRecDepth 100000
set_option linter.unusedVariables false

/-- In w the law's disk S lies at p in blocks of the law's own, F; what was there when the law began (w0) stands, the table among it. -/
structure LawD (D : World → (Nat → Prop) → Addr → DS → Prop) (w0 w : World) (F : Nat → Prop) (p : Addr) (S : DS) : Prop where
  d : D w F p S
  out : ∀ k, F k → w0.heap.size ≤ k
  bel : Below w0.heap.size w0 w
  tab : Tab w0 ∧ 1 < w0.heap.size
/-- .. and a log of it at q. -/
structure LawL (D : World → (Nat → Prop) → Addr → DS → Prop) (w0 w : World) (F : Nat → Prop) (p : Addr) (S : DS) (q : Nat) (seq : Int) : Prop extends LawD D w0 w F p S where
  log : PLog w q p seq
  qF : ¬ F q
  q0 : w0.heap.size ≤ q

section
variable {D : World → (Nat → Prop) → Addr → DS → Prop} {w0 w w' : World} {F F' : Nat → Prop} {p : Addr} {S S' : DS} {q : Nat} {seq : Int}

theorem LawD.tabF (h : LawD D w0 w F p S) : TabF w F := ⟨h.tab.1.below h.bel h.tab.2, Nat.lt_of_lt_of_le h.tab.2 h.bel.size, fun hf => by have := h.out _ hf; have := h.tab.2; omega⟩
theorem LawD.lt (api : DiskApi D) (h : LawD D w0 w F p S) : ∀ k, F k → k < w.heap.size := api.lt w F p S h.d
theorem LawD.later (api : DiskApi D) (h : LawD D w0 w F p S) (hb : Below w.heap.size w w') : LawD D w0 w' F p S := ⟨api.below h.d hb, h.out, h.bel.trans (hb.mono h.bel.size), h.tab⟩
theorem LawD.next (h : LawD D w0 w F p S) (hd : D w' F' p S') (ht : Touch F w w') (hF : ∀ k, F' k → F k ∨ w.heap.size ≤ k) : LawD D w0 w' F' p S' :=
  ⟨hd, fun k hk => by
    rcases hF k hk with a | a
    · exact h.out k a
    · exact Nat.le_trans h.bel.size a, h.bel.trans (ht.below h.out h.bel.size), h.tab⟩
theorem LawL.later (api : DiskApi D) (h : LawL D w0 w F p S q seq) (hb : Below w.heap.size w w') : LawL D w0 w' F p S q seq := ⟨h.toLawD.later api hb, h.log.below hb, h.qF, h.q0⟩
theorem LawL.next (h : LawL D w0 w F p S q seq) (hd : D w' F' p S') (ht : Touch F w w') (hF : ∀ k, F' k → F k ∨ w.heap.size ≤ k) : LawL D w0 w' F' p S' q seq :=
  ⟨h.toLawD.next hd ht hF, h.log.keep (ht.block q h.log.cells.2.2.2 h.qF), fun hf => by
    rcases hF q hf with a | a
    · exact h.qF a
    · have := h.log.cells.2.2.2; omega, h.q0⟩

theorem law_new (api : DiskApi D) {n : Int} (h1 : 3 ≤ n) (h2 : n ≤ 65536) (ht : Tab w0 ∧ 1 < w0.heap.size) (hb : Below w0.heap.size w0 w) : Calls Tryz.prog 24 #[.int .i64 n] w fun e w' => ∃ (p : Addr) (F : Nat → Prop), e = .returned (.tuple #[.pointer (some p), .int .i64 0]) ∧ LawD D w0 w' F p (DS.new n.toNat) ∧ Below w.heap.size w w' := by
  refine (api.new n w h1 h2).mono ?_
  rintro e w' ⟨p, F, rfl, hd, hb', hF⟩
  exact ⟨p, F, rfl, ⟨hd, fun k hk => Nat.le_trans hb.size (hF k hk), hb.trans (hb'.mono hb.size), ht⟩, hb'⟩
theorem law_format (api : DiskApi D) (h : LawD D w0 w F p S) (hw : S.writes ≤ 9223372036854775800) : Calls Tryz.prog 31 #[.pointer (some p)] w fun e w' => e = .returned (.int .i64 (markS S 0 1).1) ∧ ∃ F', LawD D w0 w' F' p (markS S 0 1).2 ∧ Touch F w w' ∧ ∀ k, F' k → F k ∨ w.heap.size ≤ k := by
  refine (format_any api h.d h.tabF hw).mono ?_
  rintro e w' ⟨rfl, F', d, t, n⟩
  exact ⟨rfl, F', h.next d t n, t, n⟩
theorem law_open (api : DiskApi D) (h : LawD D w0 w F p S) (hw : S.writes ≤ 9223372036854700000) : Calls Tryz.prog 32 #[.pointer (some p)] w fun e w' =>
    ((openS S).1 ≠ 0 ∧ e = .returned (.tuple #[.pointer none, .int .i64 (openS S).1]) ∧ ∃ F', LawD D w0 w' F' p (openS S).2.2 ∧ Touch F w w' ∧ ∀ k, F' k → F k ∨ w.heap.size ≤ k) ∨
    ((openS S).1 = 0 ∧ ∃ q F', e = .returned (.tuple #[.pointer (some ⟨q, 0, none⟩), .int .i64 0]) ∧ w.heap.size ≤ q ∧ LawL D w0 w' F' p (openS S).2.2 q (openS S).2.1 ∧ Touch F w w' ∧ ∀ k, F' k → F k ∨ w.heap.size ≤ k) := by
  refine (open_any api h.d h.tabF hw).mono ?_
  rintro e w' (⟨h1, rfl, F', d, t, n⟩ | ⟨h1, q, F', rfl, hq, hl, hqF, d, t, n⟩)
  · exact .inl ⟨h1, rfl, F', h.next d t n, t, n⟩
  · exact .inr ⟨h1, q, F', rfl, hq, ⟨h.next d t n, hl, hqF, Nat.le_trans h.bel.size hq⟩, t, n⟩
/-- Open where it can't fail. -/
theorem law_open_ok (api : DiskApi D) (h : LawD D w0 w F p S) (hw : S.writes ≤ 9223372036854700000) (h0 : (openS S).1 = 0) : Calls Tryz.prog 32 #[.pointer (some p)] w fun e w' =>
    ∃ q F', e = .returned (.tuple #[.pointer (some ⟨q, 0, none⟩), .int .i64 0]) ∧ w.heap.size ≤ q ∧ LawL D w0 w' F' p (openS S).2.2 q (openS S).2.1 ∧ Touch F w w' ∧ ∀ k, F' k → F k ∨ w.heap.size ≤ k := by
  refine (law_open api h hw).mono ?_
  rintro e w' (⟨h1, _⟩ | ⟨_, h2⟩)
  · exact absurd h0 h1
  · exact h2
/-- Open, whatever it answers. -/
theorem law_open_some (api : DiskApi D) (h : LawD D w0 w F p S) (hw : S.writes ≤ 9223372036854700000) : Calls Tryz.prog 32 #[.pointer (some p)] w fun e w' =>
    ∃ v F', e = .returned (.tuple #[v, .int .i64 (openS S).1]) ∧ LawD D w0 w' F' p (openS S).2.2 ∧ Touch F w w' ∧ ∀ k, F' k → F k ∨ w.heap.size ≤ k := by
  refine (law_open api h hw).mono ?_
  rintro e w' (⟨h1, rfl, F', d, t, n⟩ | ⟨h1, q, F', rfl, _, d, t, n⟩)
  · exact ⟨_, F', rfl, d, t, n⟩
  · exact ⟨_, F', by rw [h1], d.toLawD, t, n⟩
theorem law_commit (api : DiskApi D) (h : LawL D w0 w F p S q seq) {A : Option Addr} {n c : Nat} {l : List (Int × List Int)} (hl : RImgs w (orAt F q) A n l) (hby : ∀ y ∈ l, AllBytes y.2) (hin : ∀ y ∈ l, -9223372036854775808 ≤ y.1 ∧ y.1 ≤ 9223372036854775807) (hn : n ≤ 65536) (hs : 0 ≤ seq ∧ seq < 4611686018427387904) (hw : S.writes ≤ 9223372036854500000) :
    Calls Tryz.prog 93 #[.pointer (some ⟨q, 0, none⟩), .slice A n c] w fun e w' => e = .returned (.int .i64 (commitS S seq l).1) ∧ ∃ F', LawL D w0 w' F' p (commitS S seq l).2.2 q (commitS S seq l).2.1 ∧ Touch (orAt F q) w w' ∧ ∀ k, F' k → F k ∨ w.heap.size ≤ k := by
  refine (commit_any (c := c) api h.d h.log h.qF h.tabF hl hby hin hn hs hw).mono ?_
  rintro e w' ⟨rfl, F', d, hlog, hqF, t, n⟩
  refine ⟨rfl, F', ⟨⟨d, fun k hk => ?_, h.bel.trans (t.below (fun k hk => ?_) h.bel.size), h.tab⟩, hlog, hqF, h.q0⟩, t, n⟩
  · rcases n k hk with a | a
    · exact h.out k a
    · exact Nat.le_trans h.bel.size a
  · rcases hk with a | rfl
    · exact h.out k a
    · exact h.q0
theorem law_load (api : DiskApi D) (h : LawL D w0 w F p S q seq) (pg : Int) (hpg : -9223372036854775808 ≤ pg ∧ pg ≤ 9223372036854775807) : Calls Tryz.prog 100 #[.pointer (some ⟨q, 0, none⟩), .int .i64 pg] w fun e w' => ∃ A n c, e = .returned (.tuple #[.slice A n c, .int .i64 (loadS S pg).2]) ∧ n ≤ c ∧ RB w' w'.heap.size A n (loadS S pg).1 ∧ LawL D w0 w' F p S q seq ∧ Below w.heap.size w w' := by
  refine (load_any api h.d h.log h.tabF pg hpg).mono ?_
  rintro e w' ⟨A, n, c, rfl, hc, hr, hb⟩
  exact ⟨A, n, c, rfl, hc, hr, h.later api hb, hb⟩
theorem law_pages (api : DiskApi D) (h : LawL D w0 w F p S q seq) : Calls Tryz.prog 83 #[.pointer (some ⟨q, 0, none⟩)] w fun e w' => e = .returned (.int .i64 (pagesOf S.n)) ∧ w' = w := pages_same api h.d h.log
/-- The beginning of a law: a disk that was made, formatted and opened. -/
theorem law_fresh_open {m : Nat} (hm : 3 ≤ m ∧ m ≤ 65536) : (markS (DS.new m) 0 1).2.writes ≤ 9223372036854700000 := by
  have hF : Free (DS.new m) := ⟨rfl, rfl⟩
  obtain ⟨_, _, _, h4, _⟩ := free_mark hF (c := 0) (s := 1) (show 3 ≤ m from hm.1) (by decide)
  rw [h4]
  show 0 + 1 ≤ 9223372036854700000
  omega
end

end Go.Proofs.YtinhdimalhfgkaaGreatDoor
