/-
  The plain disk's Crash by contract. Condition: the list of what is kept lies apart.
-/
import Derived.Test.YtkpopdoigkcpgaaRefDiskH
namespace Go.Proofs.Ytkpopdoigkcpgaa
open Go.RowKit
set_option linter.unusedVariables false

set_option maxHeartbeats 800000 in
theorem has_any {w : World} {B n : Nat} {A : Option Addr} {l : List Int} (c : Nat) (v : Int) (hr : RI w B A n l) (hm : n ≤ maxLen) :
    Calls Try.prog 47 #[.slice A n c, .int .i64 v] w fun e w' => e = .returned (.bool (decide (v ∈ l))) ∧ w = w' := by
  unfold maxLen at hm
  have hlen := hr.len
  go_enter Try.func47, Try.ntmps47
  go_wp2
  go_loop [5] (fun i => ∃ k : Nat, k ≤ n ∧ i = .int .i64 k ∧ Hid (∀ j, j < k → l[j]?.getD 0 ≠ v)) (fun i => n - (intOf i).toNat)
  case atStart => exact ⟨0, Nat.zero_le _, rfl, Lib.hid (fun j hj => absurd hj (by omega))⟩
  case round =>
    obtain ⟨k, hk, rfl, hbef⟩ := hrel
    by_cases hlt : k < n
    · obtain ⟨b, off, rfl, hb, hcell⟩ := hr.2.2 (by omega)
      have hck := hcell k hlt
      clear hcell
      have hlt' : (k : Int) < (n : Int) := by omega
      by_cases hv : l[k]?.getD 0 = v
      · have hin : v ∈ l := by
          have hkl : k < l.length := by omega
          rw [List.getElem?_eq_getElem hkl] at hv
          rw [← hv]
          exact List.getElem_mem hkl
        have kv : (l[k]?.getD 0 == v) = true := by simp [hv]
        have hd := Lib.hid (show decide (v ∈ l) = true by simpa using hin)
        clear hv hin
        generalize l[k]?.getD 0 = u at hck kv
        go_wp2
        go_ret
        rw [hd.out]
        exact ⟨rfl, rfl⟩
      · have kv : (l[k]?.getD 0 == v) = false := by simpa using hv
        have hn := Lib.hid (fun j (hj : j < k + 1) => show l[j]?.getD 0 ≠ v by
          rcases Nat.lt_or_ge j k with h | h
          · exact hbef.out j h
          · obtain rfl : j = k := by omega
            exact hv)
        clear hv
        generalize l[k]?.getD 0 = u at hck kv
        go_wp2
        go_round
        case rel => exact ⟨k + 1, by omega, by go_num, hn⟩
        case measure => simp [intOf]; omega
    · obtain rfl : k = n := by omega
      have hi := Lib.hid (show decide (v ∈ l) = false by
        have : ¬ v ∈ l := fun hm => by
          obtain ⟨j, hj, e⟩ := List.getElem_of_mem hm
          have := hbef.out j (by omega)
          rw [List.getElem?_eq_getElem hj] at this
          exact this e
        simpa using this)
      go_wp2
      go_ret
      rw [hi.out]
      exact ⟨rfl, rfl⟩

theorem kept_turn {S : DS} (hok : S.Ok) (keep : List Int) (i : Nat) : S.kept keep i ↔ (0 < turnOf S.pend i ∧ ((turnOf S.pend i : Nat) : Int) - 1 ∈ keep) := by
  constructor
  · rintro ⟨a, ha, hm⟩
    have := (turnOf_get hok.pendNodup a i).1 ha
    rw [this]
    refine ⟨by omega, ?_⟩
    have e : ((a + 1 : Nat) : Int) - 1 = a := by omega
    rwa [e]
  · rintro ⟨h0, hm⟩
    obtain ⟨a, ha⟩ : ∃ a, turnOf S.pend i = a + 1 := ⟨turnOf S.pend i - 1, by omega⟩
    refine ⟨a, (turnOf_get hok.pendNodup a i).2 ha, ?_⟩
    rw [ha] at hm
    have e : ((a + 1 : Nat) : Int) - 1 = a := by omega
    rwa [e] at hm

open Classical in
theorem crash_parts (S : DS) (l : List Int) : ∃ cs : Nat → List Int, (∀ i, S.kept l i → cs i = S.last i) ∧ (∀ i, ¬ S.kept l i → cs i = S.safe i) ∧ (S.crash l).safe = cs ∧ (S.crash l).last = cs := by
  refine ⟨(S.crash l).safe, fun i hk => ?_, fun i hk => ?_, rfl, rfl⟩
  · show (if S.kept l i then S.last i else S.safe i) = _
    rw [if_pos hk]
  · show (if S.kept l i then S.last i else S.safe i) = _
    rw [if_neg hk]

section
variable {w : World} {G : Nat → Prop} {x : Addr} {S : DS}

/-- The loop's memory. -/
def CrashAt (w0 wr : World) (G : Nat → Prop) (gx gl : Nat) (S : DS) (cs : Nat → List Int) (k : Nat) : Prop :=
  Ref0 wr G gx gl (refHead gl S) S.n (fun i => if i < k then cs i else S.safe i) (fun i => if i < k then cs i else S.last i) (fun i => if i < k then 0 else turnOf S.pend i) ∧ Touch G w0 wr

theorem CrashAt.step {w0 wr : World} {gx gl : Nat} {cs : Nat → List Int} {k : Nat} {A : Option Addr} {n c : Nat} (h : CrashAt w0 wr G gx gl S cs k) (hk : k < S.n) (hs : cs k = S.safe k) (hv : SecV wr G gx gl (.slice A n c) (S.safe k)) :
    CrashAt w0 ((wr.setCell ⟨gl, k * 3 + 1, none⟩ (.slice A n c)).setCell ⟨gl, k * 3 + 2, none⟩ (.int .i64 0)).drew G gx gl S cs (k + 1) := by
  obtain ⟨h, ht⟩ := h
  refine ⟨(((h.setLast hk hv).setTurn hk 0).keep (w' := ((wr.setCell ⟨gl, k * 3 + 1, none⟩ (.slice A n c)).setCell ⟨gl, k * 3 + 2, none⟩ (.int .i64 ((0 : Nat) : Int))).drew) (fun _ _ => rfl)).congr (fun i _ => ?_), ((ht.set h.2.2.1 _ _).set h.2.2.1 _ _).drew⟩
  by_cases e : i = k
  · subst e; simp [hs]
  · have e2 : (i < k + 1) = (i < k) := by simp; omega
    simp [e, e2]
theorem CrashAt.kept {w0 wr : World} {gx gl : Nat} {cs : Nat → List Int} {k : Nat} {A : Option Addr} {n c : Nat} (h : CrashAt w0 wr G gx gl S cs k) (hk : k < S.n) (hs : cs k = S.last k) (hv : SecV wr G gx gl (.slice A n c) (S.last k)) :
    CrashAt w0 (((wr.setCell ⟨gl, k * 3, none⟩ (.slice A n c)).setCell ⟨gl, k * 3 + 1, none⟩ (.slice A n c)).setCell ⟨gl, k * 3 + 2, none⟩ (.int .i64 0)).drew.drew G gx gl S cs (k + 1) := by
  obtain ⟨h, ht⟩ := h
  have h1 := h.setSafe hk hv
  have hv1 : SecV (wr.setCell ⟨gl, k * 3, none⟩ (.slice A n c)) G gx gl (.slice A n c) (S.last k) := hv.keep (fun _ h => h) (fun b o _ _ hb => far_cell hb _ _ _)
  refine ⟨(((h1.setLast hk hv1).setTurn hk 0).keep (w' := (((wr.setCell ⟨gl, k * 3, none⟩ (.slice A n c)).setCell ⟨gl, k * 3 + 1, none⟩ (.slice A n c)).setCell ⟨gl, k * 3 + 2, none⟩ (.int .i64 ((0 : Nat) : Int))).drew.drew) (fun _ _ => rfl)).congr (fun i _ => ?_), (((ht.set h.2.2.1 _ _).set h.2.2.1 _ _).set h.2.2.1 _ _).drew.drew⟩
  by_cases e : i = k
  · subst e; simp [hs]
  · have e2 : (i < k + 1) = (i < k) := by simp; omega
    simp [e, e2]

set_option maxRecDepth 100000 in
set_option maxHeartbeats 3200000 in
theorem refCrash_any (h : RefAt w G x S) {A : Option Addr} {n B : Nat} {l : List Int} (c : Nat) (hr : RI w B A n l) (hB : B ≤ w.heap.size) (hn : n ≤ maxLen) (hA : 0 < n → ∀ a, A = some a → ¬ G a.block) :
    Calls Try.prog 33 #[.pointer (some x), .slice A n c] w fun e w' => e = .returned (.tuple #[]) ∧ Wrote w G x (S.crash l) w' := by
  obtain ⟨gx, gl, rfl, h0, hok, harm⟩ := h
  have hsz := hok.size
  have hpl := hok.pend_len
  have HOK := Lib.hid hok
  have HCR := Lib.hid (show (S.crash l).Ok from DS.crash_ok hok l)
  obtain ⟨cs, cs1, cs2, cs3, cs4⟩ := crash_parts S l
  have CS1 := Lib.hid cs1
  have CS2 := Lib.hid cs2
  have CS3 := Lib.hid cs3
  have CS4 := Lib.hid cs4
  have h0' : CrashAt w w G gx gl S cs 0 := ⟨h0, Touch.refl _ _⟩
  have H0 := Lib.hid h0'
  have hne := h0.1
  have hgx := h0.2.1
  have hgl := h0.2.2.1
  clear hok h0 h0' cs1 cs2 cs3 cs4
  go_enter Try.func33, Try.ntmps33
  go_wp2_with fail
  go_loopw [4] (fun i wr => ∃ k : Nat, k ≤ S.n ∧ i = .int .i64 k ∧ Hid (CrashAt w wr G gx gl S cs k)) (fun i _ => S.n - (intOf i).toNat)
  case atStart => exact ⟨0, Nat.zero_le _, rfl, H0⟩
  case round =>
    obtain ⟨k, hk, rfl, hmem⟩ := hrel
    clear H0
    have c0 : wr.cell? ⟨gx, 0, none⟩ = some (.slice (some ⟨gl, 0, none⟩) S.n S.n) := hmem.out.1.cell (o := 0) (by decide)
    by_cases hlt : k < S.n
    · obtain ⟨As, ns, csl, Al, nl, cl, z0, z1, z2, hsv, hlv⟩ := hmem.out.1.one hlt
      rw [if_neg (Nat.lt_irrefl k)] at z2 hsv hlv
      have g0 := hmem.out.1.glFrozen (k * 3)
      have g1 := hmem.out.1.glFrozen (k * 3 + 1)
      have g2 := hmem.out.1.glFrozen (k * 3 + 2)
      have HSV := Lib.hid hsv
      have HLV := Lib.hid hlv
      have hlt' : (k : Int) < (S.n : Int) := by omega
      have hkt := kept_turn HOK.out l k
      have htle := turnOf_le S.pend k
      obtain ⟨t, htq⟩ : ∃ t : Nat, turnOf S.pend k = t := ⟨_, rfl⟩
      rw [htq] at z2 hkt htle
      clear hsv hlv htq
      by_cases ht0 : 0 < t
      · have ht0' : decide ((t : Int) > 0) = true := by simp; omega
        by_cases hin : ((t : Nat) : Int) - 1 ∈ l
        · have hcs := CS1.out k (hkt.2 ⟨ht0, hin⟩)
          have hdc : decide (((t : Nat) : Int) - 1 ∈ l) = true := by simpa using hin
          clear hin hkt
          have HX := Lib.hid (hmem.out.kept hlt hcs HLV.out)
          clear hcs
          go_wp2_with fail
          refine (has_any c _ (hr.touch hmem.out.2 hB hA) hn).mono ?_
          rw [hdc]
          rintro e w1 ⟨rfl, rfl⟩
          go_wp2_with fail
          go_region
          go_wp2_with fail
          go_region
          clear hmem z0 z1 z2 g0 g1 g2 c0 HSV HLV
          go_wp2
          go_roundw
          case rel => exact ⟨k + 1, by omega, by go_num, HX⟩
          case measure => simp [intOf]; omega
        · have hcs := CS2.out k (fun h => hin (hkt.1 h).2)
          have hdc : decide (((t : Nat) : Int) - 1 ∈ l) = false := by simpa using hin
          clear hin hkt
          have HX := Lib.hid (hmem.out.step hlt hcs HSV.out)
          clear hcs
          go_wp2_with fail
          refine (has_any c _ (hr.touch hmem.out.2 hB hA) hn).mono ?_
          rw [hdc]
          rintro e w1 ⟨rfl, rfl⟩
          go_wp2_with fail
          go_region
          clear hmem z0 z1 z2 g0 g1 g2 c0 HSV HLV
          go_wp2
          go_roundw
          case rel => exact ⟨k + 1, by omega, by go_num, HX⟩
          case measure => simp [intOf]; omega
      · have ht0' : decide ((t : Int) > 0) = false := by simp; omega
        have hcs := CS2.out k (fun h => ht0 (hkt.1 h).1)
        have HX := Lib.hid (hmem.out.step hlt hcs HSV.out)
        clear hcs hkt
        go_wp2_with fail
        go_region
        clear hmem z0 z1 z2 g0 g1 g2 c0 HSV HLV
        go_wp2
        go_roundw
        case rel => exact ⟨k + 1, by omega, by go_num, HX⟩
        case measure => simp [intOf]; omega
    · obtain rfl : k = S.n := by omega
      obtain ⟨hr0, ht0⟩ := hmem.out
      have f1 := hr0.frozen 1
      have f3 := hr0.frozen 3
      have f4 := hr0.frozen 4
      have f5 := hr0.frozen 5
      have c1 : wr.cell? ⟨gx, 1, none⟩ = some (.int .i64 (S.pend.length : Nat)) := hr0.cell (o := 1) (by decide)
      have c3 : wr.cell? ⟨gx, 3, none⟩ = some (.int .i64 (S.arm.getD 0 : Nat)) := hr0.cell (o := 3) (by decide)
      have c4 : wr.cell? ⟨gx, 4, none⟩ = some (.bool S.arm.isSome) := hr0.cell (o := 4) (by decide)
      have c5 : wr.cell? ⟨gx, 5, none⟩ = some (.bool S.down) := hr0.cell (o := 5) (by decide)
      have HX := Lib.hid (show Wrote w G ⟨gx, 0, none⟩ (S.crash l) ((((wr.setCell ⟨gx, 1, none⟩ (.int .i64 0)).setCell ⟨gx, 5, none⟩ (.bool false)).setCell ⟨gx, 4, none⟩ (.bool false)).setCell ⟨gx, 3, none⟩ (.int .i64 0)) from by
        refine ⟨G, ⟨gx, gl, rfl, (((((hr0.head 1 (.int .i64 0)).head 5 (.bool false)).head 4 (.bool false)).head 3 (.int .i64 0)).congrHead (fun j hj => ?_)).congr (fun i hi => ?_), HCR.out, Nat.zero_le _⟩, (((ht0.set hgx _ _).set hgx _ _).set hgx _ _).set hgx _ _, fun k hk => .inl hk⟩
        · match j, hj with
          | 0, _ => rfl
          | 1, _ => rfl
          | 2, _ => rfl
          | 3, _ => rfl
          | 4, _ => rfl
          | 5, _ => rfl
        · have hi' : i < S.n := hi
          rw [CS3.out, CS4.out]
          simp only [hi', if_true, true_and]
          rfl)
      clear hr0 ht0 hmem
      go_wp2
      go_end0
      exact ⟨rfl, HX.out⟩
end
end Go.Proofs.Ytkpopdoigkcpgaa
