/-
  The plain disk's Flush by contract. No condition.
-/
import Derived.Test.YtkpopdoigkcpgaaRefDiskG
namespace Go.Proofs.Ytkpopdoigkcpgaa
open Go.RowKit
set_option linter.unusedVariables false

section
variable {w : World} {G : Nat → Prop} {x : Addr} {S : DS}

/-- One sector's three cells. -/
theorem Ref0.one {W : World} {gx gl n q : Nat} {hd : Nat → Value} {sf lf : Nat → List Int} {tf : Nat → Nat} (h : Ref0 W G gx gl hd n sf lf tf) (hq : q < n) :
    ∃ (As : Option Addr) (ns cs : Nat) (Al : Option Addr) (nl cl : Nat), W.cell? ⟨gl, q * 3, none⟩ = some (.slice As ns cs) ∧ W.cell? ⟨gl, q * 3 + 1, none⟩ = some (.slice Al nl cl) ∧ W.cell? ⟨gl, q * 3 + 2, none⟩ = some (.int .i64 (tf q)) ∧
      SecV W G gx gl (.slice As ns cs) (sf q) ∧ SecV W G gx gl (.slice Al nl cl) (lf q) := by
  obtain ⟨h1, h2, h3, h4, f, h5, h6, h7⟩ := h
  obtain ⟨hs, hl, ht⟩ := h6 q hq
  obtain ⟨As, ns, cs, e1⟩ := hs.shape
  obtain ⟨Al, nl, cl, e2⟩ := hl.shape
  have z0 := h5.cell (i := q * 3) (by omega)
  have z1 := h5.cell (i := q * 3 + 1) (by omega)
  have z2 := h5.cell (i := q * 3 + 2) (by omega)
  rw [e1] at z0 hs
  rw [e2] at z1 hl
  rw [ht] at z2
  exact ⟨As, ns, cs, Al, nl, cl, z0, z1, z2, hs, hl⟩
theorem Ref0.glFrozen {W : World} {gx gl n : Nat} {hd : Nat → Value} {sf lf : Nat → List Int} {tf : Nat → Nat} (h : Ref0 W G gx gl hd n sf lf tf) (o : Nat) : W.frozen? ⟨gl, o, none⟩ = false := by
  obtain ⟨_, _, _, _, f, h5, _⟩ := h
  exact h5.frozen o
theorem Ref0.glLt {W : World} {gx gl n : Nat} {hd : Nat → Value} {sf lf : Nat → List Int} {tf : Nat → Nat} (h : Ref0 W G gx gl hd n sf lf tf) : gl < W.heap.size := h.lt _ h.2.2.1

set_option maxRecDepth 100000 in
set_option maxHeartbeats 3200000 in
theorem refFlush_any (h : RefAt w G x S) : Calls Try.prog 31 #[.pointer (some x)] w fun e w' => e = .returned (.int .i64 S.flushE) ∧ Wrote w G x S.flush w' := by
  have hsame := h.same
  obtain ⟨gx, gl, rfl, h0, hok, harm⟩ := h
  have c5 : w.cell? ⟨gx, 5, none⟩ = some (.bool S.down) := h0.cell (o := 5) (by decide)
  unfold DS.flushE DS.flush
  by_cases hd : S.down = true
  · rw [if_pos hd, if_pos hd]
    rw [hd] at c5
    have HS := Lib.hid hsame
    clear hd h0 hok hsame
    go_enter Try.func31, Try.ntmps31
    go_wp2
    go_ret
    exact ⟨rfl, HS.out⟩
  · rw [if_neg hd, if_neg hd]
    have hd' : S.down = false := by simpa using hd
    rw [hd'] at c5
    have hsz := hok.size
    have HOK := Lib.hid hok
    have HD := Lib.hid hd'
    have h0' : Ref0 w G gx gl (refHead gl S) S.n (fun i => if i < 0 then S.last i else S.safe i) S.last (fun i => if i < 0 then 0 else turnOf S.pend i) := h0
    have H0 := Lib.hid h0'
    have hne := h0.1
    have hgx := h0.2.1
    have hgl := h0.2.2.1
    clear hd hd' hsame hok h0 h0'
    go_enter Try.func31, Try.ntmps31
    go_wp2_with fail
    go_loopw [3] (fun i wr => ∃ k : Nat, k ≤ S.n ∧ i = .int .i64 k ∧ Hid (Ref0 wr G gx gl (refHead gl S) S.n (fun i => if i < k then S.last i else S.safe i) S.last (fun i => if i < k then 0 else turnOf S.pend i)) ∧ Hid (Touch G w wr)) (fun i _ => S.n - (intOf i).toNat)
    case atStart => exact ⟨0, Nat.zero_le _, rfl, H0, Lib.hid (Touch.refl _ _)⟩
    case round =>
      obtain ⟨k, hk, rfl, hr, ht⟩ := hrel
      clear H0 c5
      have c0 : wr.cell? ⟨gx, 0, none⟩ = some (.slice (some ⟨gl, 0, none⟩) S.n S.n) := hr.out.cell (o := 0) (by decide)
      by_cases hlt : k < S.n
      · obtain ⟨As, ns, cs, Al, nl, cl, z0, z1, z2, hsv, hlv⟩ := hr.out.one hlt
        rw [if_neg (Nat.lt_irrefl k)] at z2
        have g0 := hr.out.glFrozen (k * 3)
        have g2 := hr.out.glFrozen (k * 3 + 2)
        have HLV := Lib.hid hlv
        have hlt' : (k : Int) < (S.n : Int) := by omega
        clear hsv hlv
        by_cases hm : k ∈ S.pend
        · obtain ⟨t, htq⟩ : ∃ t : Nat, turnOf S.pend k = t := ⟨_, rfl⟩
          have htp : 0 < t := by have := turnOf_pos.2 hm; omega
          rw [htq] at z2
          have HM := Lib.hid hm
          clear htq hm
          go_wp2_with fail
          go_region
          have HX := Lib.hid (show Ref0 ((wr.setCell ⟨gl, k * 3, none⟩ (.slice Al nl cl)).setCell ⟨gl, k * 3 + 2, none⟩ (.int .i64 0)).drew G gx gl (refHead gl S) S.n (fun i => if i < k + 1 then S.last i else S.safe i) S.last (fun i => if i < k + 1 then 0 else turnOf S.pend i) from
            (((hr.out.setSafe hlt HLV.out).setTurn hlt 0).keep (w' := ((wr.setCell ⟨gl, k * 3, none⟩ (.slice Al nl cl)).setCell ⟨gl, k * 3 + 2, none⟩ (.int .i64 ((0 : Nat) : Int))).drew) (fun _ _ => rfl)).congr (fun i _ => by
              by_cases e : i = k
              · subst e; simp
              · have e2 : (i < k + 1) = (i < k) := by simp; omega
                simp [e, e2]))
          have HTX := Lib.hid (show Touch G w ((wr.setCell ⟨gl, k * 3, none⟩ (.slice Al nl cl)).setCell ⟨gl, k * 3 + 2, none⟩ (.int .i64 0)).drew from ((ht.out.set hgl _ _).set hgl _ _).drew)
          clear hr ht z0 z1 z2 g0 g2 c0
          go_wp2
          go_roundw
          case rel => exact ⟨k + 1, by omega, by go_num, HX, HTX⟩
          case measure => simp [intOf]; omega
        · rw [turnOf_no hm] at z2
          have z2' : wr.cell? ⟨gl, k * 3 + 2, none⟩ = some (.int .i64 0) := z2
          clear z2
          have HM := Lib.hid hm
          clear hm
          go_wp2_with fail
          go_roundw
          case rel =>
            refine ⟨k + 1, by omega, by go_num, Lib.hid (hr.out.congr (fun i hi => ⟨?_, rfl, ?_⟩)), ht⟩
            · by_cases e : i = k
              · subst e; simp [HOK.out.same i HM.out]
              · have e2 : (i < k + 1) = (i < k) := by simp; omega
                simp [e2]
            · by_cases e : i = k
              · subst e; simp [turnOf_no HM.out]
              · have e2 : (i < k + 1) = (i < k) := by simp; omega
                simp [e2]
          case measure => simp [intOf]; omega
      · obtain rfl : k = S.n := by omega
        have f1 := hr.out.frozen 1
        have c1 : wr.cell? ⟨gx, 1, none⟩ = some (.int .i64 (S.pend.length : Nat)) := hr.out.cell (o := 1) (by decide)
        go_wp2
        go_ret
        refine ⟨rfl, G, ⟨gx, gl, rfl, ((hr.out.head 1 (.int .i64 0)).congrHead (fun j hj => ?_)).congr (fun i hi => ?_), ?_, harm⟩, ht.out.set hgx _ _, fun k hk => .inl hk⟩
        · match j, hj with
          | 0, _ => rfl
          | 1, _ => rfl
          | 2, _ => rfl
          | 3, _ => rfl
          | 4, _ => rfl
          | 5, _ => rfl
        · have hi' : i < S.n := hi
          simp [hi', turnOf]
        · have := DS.flush_ok HOK.out
          unfold DS.flush at this
          rwa [if_neg (by rw [HD.out]; decide)] at this
end
end Go.Proofs.Ytkpopdoigkcpgaa
