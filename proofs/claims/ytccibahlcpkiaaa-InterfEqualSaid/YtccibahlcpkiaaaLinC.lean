/-
  Contracts of lines.Funds and lines.Equal. Condition: fewer than 2^31 lines.
-/
import Derived.Test.YtccibahlcpkiaaaLinB
import Derived.Test.YtccibahlcpkiaaaLinM
import Derived.Lib.AppendZeros
namespace Go.Proofs.Ytccibahlcpkiaaa
open Go.RowKit Go.Maps
set_option maxRecDepth 100000
set_option linter.unusedVariables false

/-- What has come of a map so far: ps, each fund once, those that are no longer to come. -/
def CameF (L : FL) (left : Int → Bool) (ps : FL) : Prop := ps.Nodup ∧ ∀ q, q ∈ ps ↔ q ∈ L ∧ left q.1 = false
theorem mapF_some {L : FL} {x : Int} {v : Value} (h : mapF L x = some v) : ∃ s, v = .int .i64 s ∧ lookF L x = some s := by
  unfold mapF at h
  obtain ⟨s, h1, h2⟩ := Option.map_eq_some_iff.1 h
  exact ⟨s, h2.symm, h1⟩
theorem CameF.start {L : FL} (h : RiseF L) : CameF L (fun x => (mapF L x).isSome) [] := ⟨List.nodup_nil, fun q => ⟨fun h => (by cases h), fun ⟨h1, h3⟩ => by
  have h4 : (mapF L q.1).isSome = false := h3
  unfold mapF at h4
  rw [h.look h1] at h4
  cases h4⟩⟩
theorem CameF.step {L : FL} {x s : Int} {left : Int → Bool} {ps : FL} (h : CameF L left ps) (hL : RiseF L) (hx : lookF L x = some s) (hl : left x = true) : CameF L (fun z => left z && !decide (z = x)) (ps ++ [(x, s)]) := by
  obtain ⟨h1, h2⟩ := h
  have hno : (x, s) ∉ ps := fun hm => by
    have := ((h2 _).1 hm).2
    rw [hl] at this
    cases this
  refine ⟨?_, fun q => ?_⟩
  · rw [List.nodup_append]
    refine ⟨h1, List.nodup_cons.2 ⟨by simp, List.nodup_nil⟩, fun a ha b hb e => ?_⟩
    obtain rfl := List.mem_singleton.1 hb
    rw [e] at ha
    exact hno ha
  · rw [List.mem_append, List.mem_singleton, h2 q]
    constructor
    · rintro (⟨a, c⟩ | rfl)
      · exact ⟨a, by show (left q.1 && _) = false; rw [c]; rfl⟩
      · exact ⟨lookF_mem hx, by simp⟩
    · rintro ⟨a, c⟩
      by_cases e : q.1 = x
      · right
        have h3 := hL.look a
        rw [e, hx] at h3
        exact Prod.ext e (Option.some.inj h3).symm
      · left
        refine ⟨a, ?_⟩
        have : decide (q.1 = x) = false := by simpa using e
        have c' : (left q.1 && !decide (q.1 = x)) = false := c
        rw [this] at c'
        simpa using c'
theorem CameF.done {L : FL} {left : Int → Bool} {ps : FL} (h : CameF L left ps) (hL : RiseF L) (h0 : ∀ x, left x = false) : ps.Perm L := by
  obtain ⟨h1, h2⟩ := h
  refine (List.perm_ext_iff_of_nodup h1 hL.nodup).2 fun q => ?_
  rw [h2 q]
  exact ⟨fun ⟨a, _⟩ => a, fun a => ⟨a, h0 _⟩⟩
theorem rise_fundLn {L : FL} (h : RiseF L) : (L.map fundLn).Pairwise (fun x y => x.f < y.f) := by
  rw [List.pairwise_map]
  exact h
theorem fundLn_ok {L : FL} (h : ∀ p ∈ L, B64 p.1 ∧ B64 p.2) : ∀ x ∈ L.map fundLn, LnOk x := by
  intro x hx
  obtain ⟨p, hp, rfl⟩ := List.mem_map.1 hx
  exact ⟨(h p hp).1, by show B64 0; unfold B64; omega, by show B64 0; unfold B64; omega, (h p hp).2⟩

section
variable {w w' : World} {A : Option Addr} {n k B : Nat} {l : List Ln}
set_option maxHeartbeats 800000 in
theorem funds_any (hr : RL w B A n l) (hB : B ≤ w.heap.size) (hn : n ≤ 2147483647) :
    Calls Try.prog 14 #[.slice A n k] w fun e w' => ∃ u, e = .returned u ∧ LOwn w' w.heap.size u ((fundsOf l).map fundLn) ∧ Below w.heap.size w w' := by
  have HS := Lib.hid (sums_any (k := k) hr hB hn)
  have HR := Lib.hid (And.intro (fundsOf_rise l) (And.intro (fundsOf_in l hr.ok) (show (fundsOf l).length ≤ n by rw [← hr.len]; exact fundsOf_len l)))
  generalize fundsOf l = L at HS HR ⊢
  clear hr hB
  go_enter Try.func14, Try.ntmps14
  go_wp2_with fail
  refine HS.out.mono ?_
  rintro e w1 ⟨m, rfl, hm0, hm, hb1⟩
  obtain ⟨w2, cnt0, hrange, hR0, hcnt0, hg0, hs0⟩ := hm.range Try.underlying31
  have hb2 : Below w1.heap.size w1 w2 := (Below.refl _ _).grown hg0 (Nat.le_refl _) (fun k h => by cases h)
  have hml := hm.lt
  obtain ⟨r, hrr⟩ : ∃ r, r = w1.heap.size := ⟨_, rfl⟩
  have hst : IRange w2 m w1.heap.size n (mapF L) (fun x => (mapF L x).isSome) cnt0 ∧ LOwn w2 (w1.heap.size + 1) (.slice none 0 0) (([] : FL).map fundLn) ∧ CameF L (fun x => (mapF L x).isSome) [] ∧ Below w1.heap.size w1 w2 ∧ ([] : FL).length + cnt0 ≤ n := ⟨hR0, LOwn.start _ _, CameF.start HR.out.1, hb2, by simpa using hcnt0⟩
  have H0 := Lib.hid hst
  have HB1 := Lib.hid (And.intro hb1 (And.intro hm0 hml))
  rw [← hrr] at hrange H0
  have HRR := Lib.hid hrr
  clear hm hm0 hb1 hR0 hcnt0 hg0 hs0 hb2 hml hst HS hrr
  go_wp2_with fail
  go_loopw [3] (fun u wr => ∃ (left : Int → Bool) (cnt : Nat) (ps : FL), Hid (IRange wr m r n (mapF L) left cnt ∧ LOwn wr (r + 1) u (ps.map fundLn) ∧ CameF L left ps ∧ Below r w1 wr ∧ ps.length + cnt ≤ n)) (fun _ wr => wr.rangeLeft m r)
  case atStart => exact ⟨_, _, _, H0⟩
  case round =>
    obtain ⟨left, cnt, ps, HRW⟩ := hrel
    obtain ⟨hR, hrow, hC, hbel, hcnt⟩ := HRW.out
    obtain ⟨PA, PK, hu, _⟩ := hrow.shape
    rw [List.length_map] at hu
    subst hu
    rcases hR.next 0 with ⟨h0, hl0, hnext⟩ | ⟨x, y, w3, cnt1, hxl, hlx, hfx, hnext, hR1, hlt, hg1, hs1, hen⟩
    · have hperm := hC.done HR.out.1 hl0
      have hsort := sortLn_any hrow (by rw [List.length_map]; omega) (by
        have h1 : ((L.map fundLn).map Ln.f).Nodup := by
          rw [List.nodup_iff_pairwise_ne, List.pairwise_map]
          exact (rise_fundLn HR.out.1).imp fun {a b} h e => by omega
        exact ((hperm.map fundLn).map Ln.f).nodup_iff.2 h1) (by have := hR.lt; omega)
      have HSO := Lib.hid hsort
      have HFIN := Lib.hid (And.intro (hperm.map fundLn) (And.intro hbel hR.lt))
      clear hR hrow hC hbel hl0 hsort hperm HRW
      go_wp2_with fail
      refine HSO.out.mono ?_
      rintro e w4 ⟨rfl, l', hp, hrise, hown, hb4⟩
      obtain ⟨g1, g2, g3⟩ := HFIN.out
      have he : l' = L.map fundLn := (hp.trans g1).eq_of_pairwise (fun a b _ _ h h' => by omega) hrise (rise_fundLn HR.out.1)
      subst he
      have HE := Lib.hid (And.intro (hown.base_le (b := w.heap.size) (by have := HB1.out.1.size; have := HRR.out; omega)) (HB1.out.1.trans ((g2.trans (hb4.mono (by omega))).mono (by have := HB1.out.1.size; have := HRR.out; omega))))
      clear hp hrise hown hb4 g1 g2 g3
      go_wp2
      go_ret
      exact ⟨_, rfl, HE.out⟩
    · have hrs : r < wr.heap.size := hR.lt
      have hbel1 : Below r w1 w3 := hbel.grown hg1 (by have := hbel.size; rw [HRR.out]; exact this) (fun k e => by injection e with e; omega)
      obtain ⟨s, rfl, hls⟩ := mapF_some hfx
      have hin := HR.out.2.1 _ (lookF_mem hls)
      have hno : ∀ g, (Value.slice PA ps.length PK).ownBlock = some g → w3.heap[g]? = wr.heap[g]? := fun g hg => hg1.block g (hrow.at_ g hg).2 (fun e => by injection e with e; have := (hrow.at_ g hg).1; omega)
      have hrow1 := hrow.stays hno
      have hC1 := hC.step HR.out.1 hls hlx
      have hb4 : Below w3.heap.size w3 (w3.alloc (.cells #[.int .i64 x, .int .i64 0, .int .i64 0, .int .i64 s] 27 (0, 0))) := (Below.refl _ _).alloc (Nat.le_refl _) _
      obtain ⟨v', w6, hrun, hown6, hb6, _⟩ := (hrow1.below hb4).append1 (x := fundLn (x, s)) (heap_alloc_new _ _) ⟨hin.1, by show B64 0; unfold B64; omega, by show B64 0; unfold B64; omega, hin.2⟩ (by rw [List.length_map]; omega) (by have := hb4.size; omega) 22
      have hb36 : Below (r + 1) w3 w6 := (hb4.mono (by omega)).trans hb6
      have hR6 := hR1.keep (hb36.block m (by have := HB1.out.2.2; have := HRR.out; omega)) (hb36.block r (by omega))
      have HN := Lib.hid (show IRange w6 m r n (mapF L) (fun z => left z && !decide (z = x)) cnt1 ∧ LOwn w6 (r + 1) v' ((ps ++ [(x, s)]).map fundLn) ∧ CameF L (fun z => left z && !decide (z = x)) (ps ++ [(x, s)]) ∧ Below r w1 w6 ∧ (ps ++ [(x, s)]).length + cnt1 ≤ n from
        ⟨hR6, by rw [List.map_append]; exact hown6, hC1, hbel1.trans (hb36.mono (by omega)), by rw [List.length_append]; simp; omega⟩)
      have HLT := Lib.hid (And.intro hlt (And.intro hR.left_eq hR6.left_eq))
      have HRUN := Lib.hid hrun
      clear hR hrow hC hbel hcnt hR1 hrow1 hg1 hs1 hlt hC1 hb4 hrun hown6 hb6 hb36 hR6 hfx hls hno hbel1 HRW
      go_wp2_with (at_builtin; refine Lib.wpList_append_run _ rfl _ _ _ _ rfl _ _ rfl rfl _ _ HRUN.out ?_)
      go_roundw
      case rel => exact ⟨_, _, _, HN⟩
      case measure => obtain ⟨q1, q2, q3⟩ := HLT.out; rw [q2, q3]; exact q1
end
end Go.Proofs.Ytccibahlcpkiaaa
