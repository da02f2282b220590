/-
  The texts StrP, ViewH, ViewI joined. Conditions: those that each part says at its head.
-/
import Derived.Test.YtlcbmobdokicaaaGreatViewC
import Derived.Test.YtlcbmobdokicaaaGreatKeyQ
import Derived.Lib.BytesEntry
import Derived.Laws.Externs
import Derived.Lib.Walk
import Derived.Lib.Strings
import Derived.Lib.Slices
import Derived.Laws.Strings3
import Derived.Test.YtlcbmobdokicaaaGreatViewE

/-
  strings.HasPrefix and bytes.Compare by their contracts: whether a text begins with another one; how two slices of bytes stand to one another. No condition but that lengths are ints.
-/
namespace Go.Proofs.YtlcbmobdokicaaaGreat
open Go.RowKit Go.Maps
set_option maxRecDepth 100000
set_option linter.unusedVariables false

/-! ### strings.HasPrefix -/
set_option maxHeartbeats 800000 in
theorem hasPre_in (s p : ByteArray) (w : World) :
    Calls Tryz.prog 158 #[.string s, .string p] w fun e w' => e = .returned (.bool (p.data.toList.isPrefixOf s.data.toList)) ∧ w = w' := by
  show Calls Tryz.prog 158 #[.string s, .string p] w fun e w' => e = .returned (.bool (Lib.hasPrefix s.data.toList p.data.toList)) ∧ w = w'
  rw [← Lib.hasPrefix_of_take, ← Lib.size_eq, ← Lib.size_eq]
  go_enter Tryz.func158, Tryz.ntmps158
  go_wp2
  · rename_i h
    go_ret
    refine ⟨?_, rfl⟩
    show Ending.returned (Value.bool ((s.extract 0 p.size).toList == p.toList)) = _
    rw [Lib.extract_toList, Lib.toList_data]
    simp [h]
  · rename_i h
    go_ret
    refine ⟨?_, rfl⟩
    show Ending.returned (Value.bool false) = _
    simp [h]
set_option maxHeartbeats 800000 in
theorem hasPre_any (x p : Txt) (w : World) :
    Calls Tryz.prog 131 #[encStr x, encStr p] w fun e w' => e = .returned (.bool (p.isPrefixOf x)) ∧ w = w' := by
  have H := Lib.hid (hasPre_in ⟨x.toArray⟩ ⟨p.toArray⟩ w)
  have e : p.toArray.toList.isPrefixOf x.toArray.toList = p.isPrefixOf x := by simp
  simp only at H
  generalize p.isPrefixOf x = r at H ⊢
  go_enter Tryz.func131, Tryz.ntmps131
  go_wp2_with fail
  refine H.out.mono ?_
  rintro e w' ⟨rfl, rfl⟩
  go_wp2
  go_ret
  exact ⟨rfl, rfl⟩

end Go.Proofs.YtlcbmobdokicaaaGreat

/-
  Contract of the memory's Scan: the pairs whose keys begin so, in any order. Conditions: fewer than 2^32 pairs, texts and values of at most 2^47 bytes.
-/
namespace Go.Proofs.YtlcbmobdokicaaaGreat
open Go.RowKit Go.Maps
set_option maxRecDepth 100000
set_option linter.unusedVariables false

/-- What has come of a map so far: ps, each pair once, those of W whose keys begin with p and that are no longer to come. -/
def Came (W : TL) (p : Txt) (left : Txt → Bool) (ps : TL) : Prop := ps.Nodup ∧ ∀ q, q ∈ ps ↔ q ∈ W ∧ p.isPrefixOf q.1 = true ∧ left q.1 = false
theorem Came.start (W : TL) (p : Txt) : Came W p (fun x => (lookT W x).isSome) [] := ⟨List.nodup_nil, fun q => ⟨fun h => (by cases h), fun h => by
  obtain ⟨h1, _, h3⟩ := h
  cases hl : lookT W q.1 with
  | none => exact absurd rfl (lookT_none.1 hl q h1)
  | some c => simp [hl] at h3⟩⟩
/-- One came that is among them. -/
theorem Came.step {W : TL} {p x : Txt} {left : Txt → Bool} {ps : TL} {l : List Int} (h : Came W p left ps) (hW : RiseT W) (hx : lookT W x = some l) (hl : left x = true) (hp : p.isPrefixOf x = true) : Came W p (fun z => left z && !decide (z = x)) (ps ++ [(x, l)]) := by
  obtain ⟨h1, h2⟩ := h
  have hno : (x, l) ∉ ps := fun hm => by
    have := ((h2 _).1 hm).2.2
    rw [hl] at this
    cases this
  refine ⟨?_, fun q => ?_⟩
  · rw [List.nodup_append]
    refine ⟨h1, List.nodup_cons.2 ⟨by simp, List.nodup_nil⟩, fun a ha b hb e => ?_⟩
    obtain rfl := List.mem_singleton.1 hb
    rw [e] at ha
    exact hno ha
  · rw [List.mem_append, List.mem_singleton, h2 q]
    constructor
    · rintro (⟨a, b, c⟩ | rfl)
      · exact ⟨a, b, by show (left q.1 && _) = false; rw [c]; rfl⟩
      · exact ⟨lookT_mem hx, hp, by simp⟩
    · rintro ⟨a, b, c⟩
      by_cases e : q.1 = x
      · right
        have h3 := hW.look (show (q.1, q.2) ∈ W from a)
        rw [e, hx] at h3
        exact Prod.ext e (Option.some.inj h3).symm
      · left
        refine ⟨a, b, ?_⟩
        have : decide (q.1 = x) = false := by simpa using e
        have c' : (left q.1 && !decide (q.1 = x)) = false := c
        rw [this] at c'
        simpa using c'
/-- One came that is not. -/
theorem Came.skip {W : TL} {p x : Txt} {left : Txt → Bool} {ps : TL} (h : Came W p left ps) (hp : p.isPrefixOf x = false) : Came W p (fun z => left z && !decide (z = x)) ps := by
  obtain ⟨h1, h2⟩ := h
  refine ⟨h1, fun q => ?_⟩
  rw [h2 q]
  constructor
  · rintro ⟨a, b, c⟩
    exact ⟨a, b, by show (left q.1 && _) = false; rw [c]; rfl⟩
  · rintro ⟨a, b, c⟩
    refine ⟨a, b, ?_⟩
    have : decide (q.1 = x) = false := by
      have : q.1 ≠ x := fun e => by rw [e, hp] at b; cases b
      simpa using this
    have c' : (left q.1 && !decide (q.1 = x)) = false := c
    rw [this] at c'
    simpa using c'
theorem Came.done {W : TL} {p : Txt} {left : Txt → Bool} {ps : TL} (h : Came W p left ps) (hW : RiseT W) (h0 : ∀ x, left x = false) : ps.Perm (W.filter fun q => p.isPrefixOf q.1) := by
  obtain ⟨h1, h2⟩ := h
  have hn : W.Nodup := List.nodup_iff_pairwise_ne.2 (hW.imp fun {a b} h e => by rw [e] at h; exact tlt_irrefl _ h)
  refine (List.perm_ext_iff_of_nodup h1 (hn.filter _)).2 fun q => ?_
  rw [h2 q, List.mem_filter]
  constructor
  · rintro ⟨a, b, _⟩; exact ⟨a, b⟩
  · rintro ⟨a, b⟩; exact ⟨a, b, h0 _⟩

section
variable {w w' : World} {X : Nat → Prop} {v m c : Nat} {S : VS}
/-- What a list under way holds while another of its call's blocks, r, is written. -/
theorem GRow.beside {β : Type} {R : World → (Nat → Prop) → List Value → β → Prop} (K : KeptL R) {e : TypeId} {size base r : Nat} {Y : Nat → Prop} {v : Value} {l : List β} (h : GRow R e size w Y base v l) (hg : w.grownBy w' (some r)) (hr : Y r) (ho : v.ownBlock ≠ some r) : GRow R e size w' Y base v l :=
  h.keep K hg.size (fun _ _ h => h) (fun k hk hy => hg.block k hk fun e => hy (by injection e with e; rw [e]; exact hr)) (fun k hk => ⟨hg.block k (h.at_ k hk).2 (fun e => ho (by rw [hk, e])), h.own k hk⟩)

/-- The pairs that came, in a row of the call's own. -/
def RangeRows (w : World) (r base : Nat) (v : Value) (P : List KV) : Prop :=
  ∃ Y : Nat → Prop, GRow PairR 111 2 w Y base v P ∧ Y r ∧ (∀ k, Y k → base ≤ k ∨ k = r) ∧ (∀ k, Y k → k < w.heap.size) ∧ v.ownBlock ≠ some r

theorem RangeRows.below {r base : Nat} {u : Value} {P : List KV} (h : RangeRows w r base u P) (hb : Below w.heap.size w w') : RangeRows w' r base u P := by
  obtain ⟨Y, h1, h2, h3, h4, h5⟩ := h
  exact ⟨Y, h1.below @pairR_kept hb, h2, h3, fun k hk => Nat.lt_of_lt_of_le (h4 k hk) hb.size, h5⟩
theorem RangeRows.turned {r base : Nat} {u : Value} {P : List KV} (h : RangeRows w r base u P) (hg : w.grownBy w' (some r)) : RangeRows w' r base u P := by
  obtain ⟨Y, h1, h2, h3, h4, h5⟩ := h
  exact ⟨Y, h1.beside @pairR_kept hg h2 h5, h2, h3, fun k hk => Nat.lt_of_lt_of_le (h4 k hk) hg.size, h5⟩
theorem RangeRows.shape {r base : Nat} {u : Value} {P : List KV} (h : RangeRows w r base u P) : ∃ A c, u = .slice A P.length c := by
  obtain ⟨Y, h1, _⟩ := h
  obtain ⟨A, c, e, _⟩ := h1.shape
  exact ⟨A, c, e⟩
/-- One pair more: its cells in block b, its slices new since W. -/
theorem RangeRows.push {W : World} {r base : Nat} {u u1 u2 : Value} {P : List KV} {x : KV} {b : Nat} {TT : TypeId} (h : RangeRows W r base u P) (hW : Below W.heap.size W w) (hu1 : SV w (fun k => k < W.heap.size) u1 x.1) (hu2 : SV w (fun k => k < W.heap.size) u2 x.2) (hb : w.heap[b]? = some (.cells #[u1, u2] TT)) (hn : P.length ≤ 4294967296) (hbase : base ≤ w.heap.size) (ty : TypeId) :
    ∃ v' w', (Builtin.append_ #[124, 124] ty #[u, .slice (some ⟨b, 0, none⟩) 1 1]).run Tryz.prog w = .ok v' w' ∧ RangeRows w' r base v' (P ++ [x]) ∧ Below base w w' ∧ w.grownBy w' u.ownBlock ∧ (v'.ownBlock = u.ownBlock ∨ v'.ownBlock = some w.heap.size) := by
  obtain ⟨Y, h1, h2, h3, h4, h5⟩ := h
  have h1' := h1.below @pairR_kept hW
  obtain ⟨v', w', hrun, g1, g2, g3, _⟩ := h1'.append_pair (hu1.far fun k hk => h4 k hk) (hu2.far fun k hk => h4 k hk) hb hn hbase ty
  have hrw : r < w.heap.size := Nat.lt_of_lt_of_le (h4 r h2) hW.size
  refine ⟨v', w', hrun, ⟨_, g1, .inl h2, fun k hk => ?_, fun k hk => ?_, fun e => ?_⟩, (Below.refl base w).grown g2 hbase (fun k hk => (h1.at_ k hk).1), g2, g3⟩
  · rcases hk with a | a
    · exact h3 k a
    · exact .inl (g1.at_ k a).1
  · rcases hk with a | a
    · exact Nat.lt_of_lt_of_le (h4 k a) (Nat.le_trans hW.size g2.size)
    · exact (g1.at_ k a).2
  · rcases g3 with q | q
    · rw [q] at e; exact h5 e
    · rw [q] at e; injection e with e; omega

set_option maxHeartbeats 6400000 in
theorem memScan_any {W : TL} (h : MapL SV w X m W) (hup : RiseT W) (hX : ∀ k, X k → k < w.heap.size) (hfew : W.length ≤ 4294967295) (hkeys : ∀ p ∈ W, p.1.length ≤ 140737488355328) {A : Option Addr} {n k B : Nat} {l : List Int} (hr : RB w B A n l) :
    Calls Tryz.prog 371 #[.map (some m), .slice A n k] w fun e w' => ∃ (u : Value) (ps : TL), e = .returned (.tuple #[u, .int .i64 0]) ∧ RangeRows w' w.heap.size (w.heap.size + 1) u (ps.map kvOf) ∧ ps.Perm (W.filter fun q => (tx l).isPrefixOf q.1) ∧ Below w.heap.size w w' := by
  have hconv : (convert 109 9 (.slice A n k)).run Tryz.prog w = .ok (encStr (tx l)) w := hr.conv k
  obtain ⟨f, hS, hf⟩ := h
  obtain ⟨w0, cnt0, hrange, hR0, hcnt0, hg0, hs0⟩ := hS.range Tryz.underlying118
  have hb0 : Below w.heap.size w w0 := (Below.refl _ _).grown hg0 (Nat.le_refl _) (fun k h => by cases h)
  have hm0 : m < w.heap.size := hS.lt
  have hmap : ∀ {w1 : World}, Below w.heap.size w w1 → ∀ x y, f x = some y → ∃ l, lookT W x = some l ∧ SV w1 X y l := by
    intro w1 hb x y hx
    cases hl : lookT W x with
    | none => rw [(hf x).1 hl] at hx; cases hx
    | some d =>
      obtain ⟨u, e, hu⟩ := (hf x).2 d hl
      rw [e] at hx
      cases hx
      exact ⟨d, rfl, hu.keep hb.size (fun _ _ h => h) (fun k hk _ => hb.block k hk)⟩
  have hleft0 : (fun x => (f x).isSome) = fun x => (lookT W x).isSome := by
    funext x
    cases hl : lookT W x with
    | none => rw [(hf x).1 hl]; rfl
    | some d => obtain ⟨u, e, _⟩ := (hf x).2 d hl; rw [e]; rfl
  rw [hleft0] at hR0
  have hst : RangeRows w0 w.heap.size (w.heap.size + 1) (.slice none 0 0) ((([] : TL)).map kvOf) := ⟨fun k => k = w.heap.size, GRow.start _ _ _, rfl, fun k hk => .inr hk, fun k hk => by rw [hk, hs0]; omega, by simp [Value.ownBlock]⟩
  have H0 := Lib.hid (And.intro hR0 (And.intro hst (And.intro (Came.start W (tx l)) (And.intro hb0 (show ([] : TL).length + cnt0 ≤ W.length by simpa using hcnt0)))))
  have HMAP := Lib.hid (fun w1 hb x y hx => hmap (w1 := w1) hb x y hx)
  have HUP := Lib.hid hup
  have HF := Lib.hid (And.intro hfew (And.intro hkeys hX))
  obtain ⟨r, hrr⟩ : ∃ r, r = w.heap.size := ⟨_, rfl⟩
  have HRR := Lib.hid hrr
  rw [← hrr] at hrange H0 HMAP
  generalize hpst : encStr (tx l) = pst at hconv
  have HPST := Lib.hid hpst
  clear hcnt0 hS hf hR0 hg0 hs0 hb0 hmap hleft0 hst hup hfew hkeys hX hr hpst hrr
  go_enter Tryz.func371, Tryz.ntmps371
  go_wp2_with fail
  go_loopw [7] (fun u wr => ∃ (left : Txt → Bool) (cnt : Nat) (ps : TL), Hid (SRange wr m r W.length f left cnt ∧ RangeRows wr r (r + 1) u (ps.map kvOf) ∧ Came W (tx l) left ps ∧ Below r w wr ∧ ps.length + cnt ≤ W.length)) (fun _ wr => wr.rangeLeft m r)
  case atStart => exact ⟨_, _, _, H0⟩
  case round =>
    obtain ⟨left, cnt, ps, HR⟩ := hrel
    obtain ⟨hR, hrow, hC, hbel, hcnt⟩ := HR.out
    rcases hR.next 0 with ⟨h0, hl0, hnext⟩ | ⟨x, y, w1, cnt1, hxl, hlx, hfx, hnext, hR1, hlt, hg1, hs1, hen⟩
    · have HFIN := Lib.hid (And.intro hrow (And.intro (hC.done HUP.out hl0) hbel))
      obtain ⟨PA, PK, rfl⟩ := hrow.shape
      clear hR hrow hC hbel hl0
      go_wp2
      go_ret2
      have hh := HFIN.out
      rw [HRR.out] at hh
      exact ⟨_, ps, rfl, hh⟩
    · have hrs : r < wr.heap.size := hR.lt
      have hbel1 : Below r w w1 := hbel.grown hg1 (by have := hbel.size; omega) (fun k e => by injection e with e; omega)
      obtain ⟨l2, hl2, hsv⟩ := HMAP.out w1 hbel1 x y hfx
      obtain ⟨A2, n2, k2, rfl, _, z2, z3, _⟩ := hsv
      have hrow1 := hrow.turned hg1
      have hkl := HF.out.2.1 _ (lookT_mem hl2)
      have HPre := Lib.hid (hasPre_any x (tx l) w1)
      rw [HPST.out] at HPre
      have HML := hR.left_eq
      cases hpre : (tx l).isPrefixOf x with
      | false =>
        have HN := Lib.hid (And.intro hR1 (And.intro hrow1 (And.intro (hC.skip hpre) (And.intro hbel1 (show ps.length + cnt1 ≤ W.length by omega)))))
        rw [hpre] at HPre
        generalize encStr x = st at hnext hen HPre
        have hsh := hrow.shape
        rw [List.length_map] at hsh
        obtain ⟨PA, PK, rfl⟩ := hsh
        have HLT := Lib.hid (And.intro hlt (And.intro HML hR1.left_eq))
        clear hR hrow hC hbel hcnt hR1 hrow1 hg1 hs1 hl2 z3 hkl hlt HML
        go_wp2_with fail
        refine HPre.out.mono ?_
        rintro e w2 ⟨rfl, rfl⟩
        go_wp2
        go_roundw
        case rel => exact ⟨_, _, _, HN⟩
        case measure => obtain ⟨q1, q2, q3⟩ := HLT.out; rw [q2, q3]; exact q1
      | true =>
        have HPO := Lib.hid (pairOf_any w1 x hkl (k := k2) z3 (Nat.le_refl _) z2)
        have hC1 := hC.step HUP.out hl2 hlx hpre
        have HC := Lib.hid (And.intro hC1 (And.intro (show (ps ++ [(x, l2)]).length + cnt1 ≤ W.length by rw [List.length_append]; simp; omega) (And.intro hbel1 (And.intro hrow1 (And.intro hR1 (And.intro (show r < w1.heap.size by omega) (show (ps.map kvOf).length ≤ 4294967296 by rw [List.length_map]; have := HF.out.1; omega)))))))
        rw [hpre] at HPre
        generalize encStr x = st at hnext hen HPre HPO
        have hsh := hrow.shape
        rw [List.length_map] at hsh
        have HLT := Lib.hid (And.intro hlt HML)
        clear hR hrow hC hbel hcnt hR1 hrow1 hg1 hs1 hl2 z3 hkl hlt HML hC1
        obtain ⟨PA, PK, rfl⟩ := hsh
        go_wp2_with fail
        refine HPre.out.mono ?_
        rintro e w2 ⟨rfl, rfl⟩
        go_wp2_with fail
        refine HPO.out.mono ?_
        rintro e w3 ⟨x1, x2, rfl, hx1, hx2, hb3⟩
        obtain ⟨c1, c2, c3, c4, c5, c6, c7⟩ := HC.out
        have hX5 : Below w3.heap.size w3 (w3.alloc (.cells #[x1, x2] 111 (0, 0))) := (Below.refl _ _).alloc (Nat.le_refl _) _
        have hb5 := hb3.trans (hX5.mono hb3.size)
        obtain ⟨v', w6, hrun, hR6, hb6, hg6, ho6⟩ := c4.push (x := kvOf (x, l2)) hb5 (hx1.keep hX5.size (fun _ _ h => h) (fun k hk _ => hX5.block k hk)) (hx2.keep hX5.size (fun _ _ h => h) (fun k hk _ => hX5.block k hk)) (heap_alloc_new _ _) c7 (by have := hb5.size; omega) 124
        have hb16 : Below (r + 1) w1 w6 := (hb5.mono (by omega)).trans hb6
        have HN := Lib.hid (show SRange w6 m r W.length f (fun z => left z && !decide (z = x)) cnt1 ∧ RangeRows w6 r (r + 1) v' ((ps ++ [(x, l2)]).map kvOf) ∧ Came W (tx l) (fun z => left z && !decide (z = x)) (ps ++ [(x, l2)]) ∧ Below r w w6 ∧ (ps ++ [(x, l2)]).length + cnt1 ≤ W.length from
          ⟨c5.keep (hb16.block m (by have := HRR.out; omega)) (hb16.block r (by omega)), by rw [List.map_append]; exact hR6, c1, c3.trans (hb16.mono (by omega)), c2⟩)
        have HLE := Lib.hid HN.out.1.left_eq
        have HRUN := Lib.hid hrun
        obtain ⟨B1, m1, l1, rfl, _⟩ := hx1
        obtain ⟨B2, m2, l2', rfl, _⟩ := hx2
        clear hX5 hb5 hR6 hb6 hg6 ho6 hb16 hb3 c1 c2 c3 c4 c5 c6 c7 hrun
        go_wp2_with (at_builtin; refine Lib.wpList_append_run _ rfl _ _ _ _ rfl _ _ rfl rfl _ _ HRUN.out ?_)
        go_roundw
        case rel => exact ⟨_, _, _, HN⟩
        case measure => obtain ⟨q1, q2⟩ := HLT.out; rw [q2, HLE.out]; exact q1
end

end Go.Proofs.YtlcbmobdokicaaaGreat

/-
  Contracts of Scan's closure that asks whether a pair's key was changed, and of the library's IndexFunc and DeleteFunc with it. Conditions: texts of at most 2^47 bytes.
-/
namespace Go.Proofs.YtlcbmobdokicaaaGreat
open Go.RowKit Go.Maps
set_option maxRecDepth 100000
set_option linter.unusedVariables false

section
variable {w w' : World} {X : Nat → Prop} {v m c : Nat} {S : VS}
set_option maxHeartbeats 1600000 in
theorem chd_any (h : ViewAt w X v m c S) {bx : Nat} (hbx : w.cell? ⟨bx, 0, none⟩ = some (.pointer (some ⟨v, 0, none⟩))) (hbl : bx < w.heap.size) {A A' : Option Addr} {n k n' k' B : Nat} {l : List Int} (hr : RB w B A n l) (hB : B ≤ w.heap.size) (hn : n ≤ maxLen) :
    Calls Tryz.prog 130 #[.agg #[.slice A n k, .slice A' n' k'], .pointer (some ⟨bx, 0, none⟩)] w fun e w' => e = .returned (.bool (lookT S.C (tx l)).isSome) ∧ Below w.heap.size w w' := by
  have hlen := hr.len
  obtain ⟨u0, hlk, n1, s1⟩ := h.chg.look Tryz.underlying119 zero_change (x := tx l) (by rw [tx_length, hlen]; exact hn)
  have hch : ∃ (t : Bool) (A3 : Option Addr) (n3 k3 : Nat), u0 = .agg #[.bool t, .slice A3 n3 k3] := by
    cases hl : lookT S.C (tx l) with
    | none => exact ⟨_, _, _, _, n1 hl⟩
    | some d =>
      have hd := s1 d hl
      cases d with
      | none => exact ⟨_, _, _, _, hd⟩
      | some y =>
        obtain ⟨q, rfl, A3, n3, k3, rfl, _⟩ := hd
        exact ⟨_, _, _, _, rfl⟩
  obtain ⟨t, A3, n3, k3, rfl⟩ := hch
  obtain ⟨w1, hw1⟩ : ∃ w1, w1 = w.alloc (.cells #[.slice A n k, .slice A' n' k'] 111 (0, 0)) := ⟨_, rfl⟩
  have B1 : Below w.heap.size w w1 := by rw [hw1]; exact (Below.refl _ w).alloc (Nat.le_refl _) _
  have hs1 : w1.heap.size = w.heap.size + 1 := by rw [hw1]; simp
  have hbk : w1.heap[w.heap.size]? = some (.cells #[.slice A n k, .slice A' n' k'] 111 (0, 0)) := by rw [hw1]; exact heap_alloc_new _ _
  have hC : Below w1.heap.size w1 (w1.alloc (.cells #[.bool false, .slice none 0 0] 176)).drew := ((Below.refl _ w1).alloc (Nat.le_refl _) _).drew
  have b2 := B1.drew
  have b3 := B1.trans (hC.mono B1.size)
  have mk : ∀ W, Below w.heap.size w W → (convert 109 9 (.slice A n k)).run Tryz.prog W = .ok (.string (strOfNums l)) W ∧ (Instr.lookup 119 (.map (some c)) (.string (strOfNums l)) true).run Tryz.prog W = .ok (.tuple #[.agg #[.bool t, .slice A3 n3 k3], .bool (lookT S.C (tx l)).isSome]) W ∧ W.cell? ⟨bx, 0, none⟩ = some (.pointer (some ⟨v, 0, none⟩)) ∧ W.cell? ⟨v, 1, none⟩ = some (.map (some c)) := fun W hW =>
    ⟨(hr.below (hW.mono hB)).conv k, hlk W (hW.block c h.chg.lt), (hW.cell (p := ⟨bx, 0, none⟩) hbl).trans hbx, (h.below hW).cells.2.1⟩
  obtain ⟨p1, p2, p3, p4⟩ := mk _ b2
  obtain ⟨q1, q2, q3, q4⟩ := mk _ b3
  obtain ⟨_, _, r3, r4⟩ := mk _ B1
  have cells : ∀ W : World, W.heap[w.heap.size]? = w1.heap[w.heap.size]? → W.cell? ⟨w.heap.size, 0, none⟩ = some (.slice A n k) := fun W e => by
    rw [hbk] at e
    rw [cell_of_row W _ 0 _ _ (0, 0) e]; rfl
  have d1 := cells w1.drew rfl
  have d2 := cells (w1.alloc (.cells #[.bool false, .slice none 0 0] 176)).drew (Below.heap_alloc _ _ _ (by omega))
  have HFIN := Lib.hid (show ∀ o, Below w.heap.size w (w1.alloc o).drew from fun o => (B1.alloc B1.size o).drew)
  generalize (lookT S.C (tx l)).isSome = bs at p2 q2 ⊢
  generalize strOfNums l = st at p1 p2 q1 q2
  clear hlk n1 s1 mk cells h hr hC b2 b3 B1 hbk hbx
  go_enter Tryz.func130, Tryz.ntmps130
  go_wp2_with fail
  rw [← hw1]
  obtain ⟨bz, hbz⟩ : ∃ bz, bz = w.heap.size := ⟨_, rfl⟩
  have HBZ := Lib.hid hbz
  rw [← hbz] at d1 d2 HFIN ⊢
  clear hw1 hs1 hbz hbl hB
  go_region_with fail
  all_goals
    go_wp2_with fail
    go_ret
    have hh := HFIN.out
    rw [HBZ.out] at hh
    exact ⟨rfl, hh _⟩
end

end Go.Proofs.YtlcbmobdokicaaaGreat
