/-
  The plain disk's Pending by contract. No condition.
-/
import Derived.Test.YtkpopdoigkcpgaaRefDiskI
import Derived.Test.YtkpopdoigkcpgaaIntApp
namespace Go.Proofs.Ytkpopdoigkcpgaa
open Go.RowKit
set_option linter.unusedVariables false

theorem take_row {l : List Nat} {s p i : Nat} (hp : l[s]? = some p) (hi : i = p) : (l.take s).map Int.ofNat ++ [Int.ofNat i] = (l.take (s + 1)).map Int.ofNat := by
  subst hi
  rw [List.take_add_one, hp]
  simp

section
variable {w : World} {G : Nat → Prop} {x : Addr} {S : DS}

set_option maxRecDepth 100000 in
set_option maxHeartbeats 3200000 in
theorem refPending_any (h : RefAt w G x S) : Calls Try.prog 14 #[.pointer (some x)] w fun e w' => ∃ (A : Option Addr) (n c : Nat), e = .returned (.slice A n c) ∧ n ≤ c ∧ RI w' w'.heap.size A n S.pending ∧ (0 < n → ∀ a, A = some a → w.heap.size ≤ a.block) ∧ Below w.heap.size w w' := by
  have hlt0 := h.lt
  obtain ⟨gx, gl, rfl, h0, hok, harm⟩ := h
  have hsz := hok.size
  have hpl := hok.pend_len
  have HOK := Lib.hid hok
  have H0 := Lib.hid h0
  have hgx := hlt0 _ h0.2.1
  have hgl := hlt0 _ h0.2.2.1
  have hown : w.ownsRow w.heap.size 3 1 (.slice none 0 0) 0 (((S.pend.take 0).map Int.ofNat).map (Value.int .i64)) := World.ownsRow_nil _ _ _ _
  have HOWN := Lib.hid hown
  clear hok h0 hlt0 hown
  go_enter Try.func14, Try.ntmps14
  go_wp2_with fail
  go_loopw [3, 4] (fun ov tv wr => ∃ s : Nat, s ≤ S.pend.length ∧ tv = .int .i64 ((s : Int) + 1) ∧ Hid (wr.ownsRow w.heap.size 3 1 ov s (((S.pend.take s).map Int.ofNat).map (Value.int .i64))) ∧ Below w.heap.size w wr) (fun _ tv _ => S.pend.length + 1 - (intOf tv).toNat)
  case atStart => exact ⟨0, Nat.zero_le _, rfl, HOWN, Below.refl _ _⟩
  case round =>
    obtain ⟨s, hs, rfl, hown, hb⟩ := hrel
    clear HOWN
    have c0 : wr.cell? ⟨gx, 0, none⟩ = some (.slice (some ⟨gl, 0, none⟩) S.n S.n) := (hb.cell (p := ⟨gx, 0, none⟩) hgx).trans (H0.out.cell (o := 0) (by decide))
    have c1 : wr.cell? ⟨gx, 1, none⟩ = some (.int .i64 (S.pend.length : Nat)) := (hb.cell (p := ⟨gx, 1, none⟩) hgx).trans (H0.out.cell (o := 1) (by decide))
    have hslen : (s : Int) + 1 ≤ 9223372036854775807 := by omega
    by_cases hlt : s < S.pend.length
    · obtain ⟨p, hp⟩ : ∃ p, S.pend[s]? = some p := ⟨_, List.getElem?_eq_getElem hlt⟩
      have hpn : p < S.n := HOK.out.pendLt p (List.mem_of_getElem? hp)
      have HP := Lib.hid hp
      have hle : decide ((s : Int) + 1 ≤ (S.pend.length : Int)) = true := by simp; omega
      clear hp
      go_wp2_with fail
      have hown0 : wr.ownsRow w.heap.size 3 1 u3 (if p < 0 then s + 1 else s) (((S.pend.take (if p < 0 then s + 1 else s)).map Int.ofNat).map (Value.int .i64)) := by simpa using hown.out
      have HOWN0 := Lib.hid hown0
      clear hown0 c1
      go_loopw [3, 5] (fun ov iv wr => ∃ i : Nat, i ≤ S.n ∧ iv = .int .i64 i ∧ Hid (wr.ownsRow w.heap.size 3 1 ov (if p < i then s + 1 else s) (((S.pend.take (if p < i then s + 1 else s)).map Int.ofNat).map (Value.int .i64))) ∧ Below w.heap.size w wr) (fun _ iv _ => S.n - (intOf iv).toNat)
      case atStart => exact ⟨0, Nat.zero_le _, rfl, HOWN0, hb⟩
      case round =>
        obtain ⟨i, hi, rfl, hown2, hb2⟩ := hrel
        clear HOWN0 hown hb c0
        have c0 := (hb2.cell (p := ⟨gx, 0, none⟩) hgx).trans (show w.cell? ⟨gx, 0, none⟩ = some (.slice (some ⟨gl, 0, none⟩) S.n S.n) from H0.out.cell (o := 0) (by decide))
        by_cases hlt2 : i < S.n
        · obtain ⟨_, _, _, _, _, _, _, _, z2, _, _⟩ := H0.out.one hlt2
          have z2' := (hb2.cell (p := ⟨gl, i * 3 + 2, none⟩) hgl).trans z2
          have hlt2' : (i : Int) < (S.n : Int) := by omega
          clear z2
          by_cases hip : i = p
          · subst hip
            rw [(turnOf_get HOK.out.pendNodup s i).1 HP.out] at z2'
            have z3 : wr.cell? ⟨gl, i * 3 + 2, none⟩ = some (.int .i64 ((s : Int) + 1)) := z2'
            have hown3 := hown2.out
            rw [if_neg (Nat.lt_irrefl i)] at hown3
            have HO3 := Lib.hid hown3
            clear z2' hown3 hown2
            go_wp2_with (at_builtin; refine wpList_append_int rfl (.tmp 33) (.tmp 35) rfl w.heap.size _ s _ rfl wr.heap.size (i : Int) _ rfl (HO3.out.alloc _) (heap_alloc_new _ _) (by omega) (by have := hb2.size; simp; omega) ?_; intro v3 w3 h3 hb3)
            have h3' : w3.ownsRow w.heap.size 3 1 v3 (if i < i + 1 then s + 1 else s) (((S.pend.take (if i < i + 1 then s + 1 else s)).map Int.ofNat).map (Value.int .i64)) := by
              rw [if_pos (Nat.lt_succ_self i), ← take_row HP.out rfl]
              exact h3
            have HO4 := Lib.hid h3'
            have HB4 := Lib.hid ((hb2.alloc hb2.size (.cells #[.int .i64 i] 3)).trans hb3)
            clear h3 h3' HO3
            go_roundw
            case rel => exact ⟨i + 1, by omega, by go_num, HO4, HB4.out⟩
            case measure => simp [intOf]; omega
          · have hne : (((turnOf S.pend i : Nat) : Int) == (s : Int) + 1) = false := by
              have : turnOf S.pend i ≠ s + 1 := fun e => hip (by
                have := (turnOf_get HOK.out.pendNodup s i).2 e
                rw [HP.out] at this
                injection this with this
                exact this.symm)
              simp
              omega
            have hown3 := hown2.out
            rw [show (if p < i then s + 1 else s) = (if p < i + 1 then s + 1 else s) by
              by_cases h : p < i
              · rw [if_pos h, if_pos (by omega)]
              · rw [if_neg h, if_neg (by omega)]] at hown3
            have HO3 := Lib.hid hown3
            clear hown3 hown2
            go_wp2_with fail
            go_roundw
            case rel => exact ⟨i + 1, by omega, by go_num, HO3, hb2⟩
            case measure => simp [intOf]; omega
        · obtain rfl : i = S.n := by omega
          have hown3 := hown2.out
          rw [if_pos hpn] at hown3
          have HO3 := Lib.hid hown3
          clear hown3 hown2
          go_wp2_with fail
          go_roundw
          case rel => exact ⟨s + 1, by omega, by go_num, HO3, hb2⟩
          case measure => simp [intOf]; omega
    · obtain rfl : s = S.pend.length := by omega
      have hle : decide ((S.pend.length : Int) + 1 ≤ (S.pend.length : Int)) = false := by simp; omega
      obtain ⟨A, c, e, hc⟩ := int_own_shape hown.out
      subst e
      have hown3 := hown.out
      rw [List.take_length] at hown3
      have HRI := Lib.hid (RI.of_own hown3 (fun y hy => by
        obtain ⟨j, hj, rfl⟩ := List.mem_map.1 hy
        have := HOK.out.pendLt j hj
        constructor
        · show (_ : Int) ≤ (j : Int); omega
        · show (j : Int) ≤ _; omega))
      clear hown hown3
      go_wp2
      go_ret
      exact ⟨A, _, c, rfl, hc, HRI.out.1, HRI.out.2, hb⟩
end
end Go.Proofs.Ytkpopdoigkcpgaa
