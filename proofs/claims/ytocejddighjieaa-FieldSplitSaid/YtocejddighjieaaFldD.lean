/-
  The walk of FieldSplit: it returns true. No condition beyond those that the statement itself says.
-/
import Derived.Test.YtocejddighjieaaFldC
import Derived.Test.YtocejddighjieaaAppB
import Derived.Deep.RegionHeld3
namespace Go.Proofs.Ytocejddighjieaa
open Go.RowKit
set_option maxRecDepth 100000
set_option linter.unusedVariables false

theorem RI.some_ {w : World} {B n : Nat} {A : Option Addr} {l : List Int} (h : RI w B A n l) (k : Nat) (hk : k ≤ n) : RI w B A k (l.take k) := by
  refine ⟨by rw [List.length_take, h.len]; omega, fun x hx => h.2.1 x (List.mem_of_mem_take hx), fun h0 => ?_⟩
  obtain ⟨b, off, e, hb, hc⟩ := h.2.2 (by omega)
  refine ⟨b, off, e, hb, fun j hj => ?_⟩
  rw [hc j (by omega), List.getElem?_take, if_pos hj]
theorem RI.cut_ {w : World} {B n b off : Nat} {l : List Int} (h : RI w B (some ⟨b, off, none⟩) n l) (k : Nat) (hk : k ≤ n) : RI w B (some ⟨b, off + k, none⟩) (n - k) (l.drop k) := by
  refine ⟨by rw [List.length_drop, h.len], fun x hx => h.2.1 x (List.mem_of_mem_drop hx), fun h0 => ?_⟩
  obtain ⟨b', off', e, hb, hc⟩ := h.2.2 (by omega)
  cases e
  refine ⟨b, off + k, rfl, hb, fun j hj => ?_⟩
  rw [Nat.add_assoc, hc (k + j) (by omega), List.getElem?_drop]

/-- What a call of Pack makes of a row, in any later world. -/
def PackAt (w : World) (A : Option Addr) (n c m : Nat) (r : List Int) : Prop := ∀ wx, Below w.heap.size w wx → Calls Try.prog 12 #[.slice A n c] wx fun e w' => ∃ A' c', e = .returned (.slice A' m c') ∧ w'.ownsRow wx.heap.size 5 1 (.slice A' m c') m (r.map (Value.int .u8)) ∧ Below w.heap.size w w' ∧ Below wx.heap.size wx w' ∧ RB w' w'.heap.size A' m r
theorem packAt (w : World) (A : Option Addr) (n c m : Nat) (l : List Int) (h : RI w w.heap.size A n l) (hc : n ≤ c) (hn : n ≤ 15) (hm : 8 * n = m) : PackAt w A n c m (packN 8 l) := fun wx hb => by
  refine (fPack_any A n c _ l wx (h.below hb) hb.size hc (by unfold maxLen; omega)).mono ?_
  rintro e w' ⟨v, rfl, ho⟩
  rw [List.take_of_length_le (by rw [h.len]; exact hn)] at ho
  have hl : (packN 8 l).length = m := by rw [packN_length, h.len, hm]
  have ho' := ho.of_le hb
  obtain ⟨A', c', rfl, hc', hr⟩ := ho.read (packN_bytes _ _)
  rw [hl] at hr
  have ho2 := ho.1
  rw [hl] at ho2
  exact ⟨A', c', by rw [hl], ho2, ho'.2, ho.2, hr⟩

set_option maxHeartbeats 3200000 in
theorem split_in (b off n0 c0 k : Nat) (l : List Int) (x : Int) (w : World) (h0 : RI w w.heap.size (some ⟨b, off, none⟩) n0 l) (hc0 : n0 ≤ c0) (h15 : n0 ≤ 15) (hk : k ≤ n0) (hx0 : 0 ≤ x) (hx1 : x < 256) (hxk : x % ((n0 : Int) + 1) = k) (hck : ¬ c0 = k) :
    Calls Try.prog 4 #[.slice (some ⟨b, off, none⟩) n0 c0, .int .u8 x] w fun e w' => e = .returned (.bool true) ∧ Below w.heap.size w w' := by
  have k0 : ¬ (15 : Int) < n0 := by omega
  have hkc : k ≤ c0 := by omega
  obtain ⟨m1, hm1⟩ : ∃ m1, 8 * n0 = m1 := ⟨_, rfl⟩
  have HP := Lib.hid (packAt w (some ⟨b, off, none⟩) n0 c0 m1 l h0 hc0 h15 hm1)
  have hw8 : IntKind.i64.wrap (8 * (n0 : Int)) = (m1 : Int) := by rw [IntKind.wrap_i64]; first | (unfold wrap64; omega) | omega
  clear hm1
  have HK := Lib.hid (packAt w (some ⟨b, off, none⟩) k c0 (8 * k) _ (h0.some_ k hk) hkc (by omega) rfl)
  have HS := Lib.hid (packN_append 8 (l.take k) (l.drop k))
  rw [List.take_append_drop] at HS
  obtain ⟨m3, hm3⟩ : ∃ m3, 8 * (n0 - k) = m3 := ⟨_, rfl⟩
  have hm3' : 8 * k + m3 ≤ 120 := by omega
  have HD := Lib.hid (packAt w _ (n0 - k) (c0 - k) m3 _ (h0.cut_ k hk) (by omega) (by omega) hm3)
  clear hm3
  go_enter Try.func4, Try.ntmps4
  go_wp2_with fail
  have hb0 : Below w.heap.size w w.drew := (Below.refl _ _).drew
  have tok1 : True := trivial
  go_region_held3 (fun _ => True) (first | trivial)
    (first
    | (have _t := tok1; clear tok1; go_at_call 12; refine (HP.out _ hb0).mono ?_; rintro e w1 ⟨A1, c1, rfl, o1, b1, _, r1⟩; have R1 := Lib.hid r1; clear o1 r1; have tok2 : True := trivial)
    | (have _t := tok2; clear tok2; go_at_call 12; refine (HK.out _ b1).mono ?_; rintro e w2 ⟨A2, c2, rfl, o2, b2, d2, _⟩; have O2 := Lib.hid o2; have D2 := Lib.hid d2; clear o2 d2; have tok3 : True := trivial)
    | (have _t := tok3; clear tok3; go_at_call 12; refine (HD.out _ b2).mono ?_; rintro e w3 ⟨A3, c3, rfl, o3, b3, d3, r3⟩; have O3 := Lib.hid (own_later O2.out d3); have R3 := Lib.hid r3; have D3 := Lib.hid (D2.out.trans (d3.mono D2.out.size)); clear o3 d3 r3 O2; have tok4 : True := trivial)
    | (have _t := tok4; clear tok4; refine step_append_bytes2 rfl (.tmp 21) (.tmp 25) rfl w1.heap.size _ (8 * k) _ rfl O3.out _ A3 m3 c3 _ rfl R3.out (by omega) D3.out.size ?_; intro v4 w4 o4 d4; rw [← HS.out] at o4; have HH := read_own o4 (packN_bytes _ _); obtain ⟨A4, c4, e4, _, r4⟩ := HH; subst e4; have R14 := Lib.hid (R1.out.below (D3.out.trans d4)); have R4 := Lib.hid r4; have b4 := b3.trans (d4.mono b1.size); clear o4 d4 r4 O3 R3; have tok5 : True := trivial)
    | (have _t := tok5; clear tok5; go_at_call 11; refine (Equal_any c1 c4 R14.out R4.out).mono ?_; rintro e w5 ⟨e5, e6⟩; subst e5; subst e6; rw [decide_eq_true (rfl : packN 8 l = packN 8 l)]; have tok6 : True := trivial)
    | (have _t := tok6; clear tok6; go_at_call 12; refine (HP.out _ b4).mono ?_; rintro e w6 ⟨A6, c6, rfl, _, b6, _, _⟩; have tok7 : True := trivial)
    | (have _t := tok7; clear tok7; go_at_call 8; refine (fAwake_any _).mono ?_; rintro e w7 ⟨rfl, d7⟩; have b7 := b6.trans (d7.mono b6.size)))
  all_goals have B7 := Lib.hid b7
  all_goals go_wp2
  all_goals go_ret
  all_goals exact ⟨rfl, B7.out⟩

set_option maxHeartbeats 3200000 in
theorem split_full (ad : Addr) (k : Nat) (l : List Int) (x : Int) (w : World) (h0 : RI w w.heap.size (some ad) k l) (h15 : k ≤ 15) (hx0 : 0 ≤ x) (hx1 : x < 256) (hxk : x % ((k : Int) + 1) = k) :
    Calls Try.prog 4 #[.slice (some ad) k k, .int .u8 x] w fun e w' => e = .returned (.bool true) ∧ Below w.heap.size w w' := by
  have k0 : ¬ (15 : Int) < k := by omega
  have hkc : k ≤ k := by omega
  obtain ⟨m1, hm1⟩ : ∃ m1, 8 * k = m1 := ⟨_, rfl⟩
  have HP := Lib.hid (packAt w (some ad) k k m1 l h0 (Nat.le_refl _) h15 hm1)
  have hw8 : IntKind.i64.wrap (8 * (k : Int)) = (m1 : Int) := by rw [IntKind.wrap_i64]; first | (unfold wrap64; omega) | omega
  clear hm1
  have HK := Lib.hid (packAt w (some ad) k k (8 * k) _ (h0.some_ k (Nat.le_refl _)) (Nat.le_refl _) (by omega) rfl)
  have HS := Lib.hid (packN_append 8 (l.take k) (l.drop k))
  rw [List.take_append_drop] at HS
  have m3 : Nat := 0
  have HN := Lib.hid (show l.drop k = [] from List.drop_of_length_le (by rw [h0.len]; omega))
  have HD : Hid (∀ A, PackAt w A 0 0 0 (packN 8 (l.drop k))) := Lib.hid (fun A => by rw [HN.out]; exact packAt w A 0 0 0 [] RI.nil_ (Nat.le_refl _) (Nat.zero_le _) rfl)
  clear HN
  go_enter Try.func4, Try.ntmps4
  go_wp2_with fail
  have hb0 : Below w.heap.size w w.drew := (Below.refl _ _).drew
  have tok1 : True := trivial
  go_region_held3 (fun _ => True) (first | trivial)
    (first
    | (have _t := tok1; clear tok1; go_at_call 12; refine (HP.out _ hb0).mono ?_; rintro e w1 ⟨A1, c1, rfl, o1, b1, _, r1⟩; have R1 := Lib.hid r1; clear o1 r1; have tok2 : True := trivial)
    | (have _t := tok2; clear tok2; go_at_call 12; refine (HK.out _ b1).mono ?_; rintro e w2 ⟨A2, c2, rfl, o2, b2, d2, _⟩; have O2 := Lib.hid o2; have D2 := Lib.hid d2; clear o2 d2; have tok3 : True := trivial)
    | (have _t := tok3; clear tok3; go_at_call 12; refine (HD.out _ _ b2).mono ?_; rintro e w3 ⟨A3, c3, rfl, o3, b3, d3, r3⟩; have O3 := Lib.hid (own_later O2.out d3); have R3 := Lib.hid r3; have D3 := Lib.hid (D2.out.trans (d3.mono D2.out.size)); clear o3 d3 r3 O2; have tok4 : True := trivial)
    | (have _t := tok4; clear tok4; refine step_append_bytes2 rfl (.tmp 21) (.tmp 25) rfl w1.heap.size _ (8 * k) _ rfl O3.out _ A3 0 c3 _ rfl R3.out (by omega) D3.out.size ?_; intro v4 w4 o4 d4; rw [← HS.out] at o4; have HH := read_own o4 (packN_bytes _ _); obtain ⟨A4, c4, e4, _, r4⟩ := HH; subst e4; have R14 := Lib.hid (R1.out.below (D3.out.trans d4)); have R4 := Lib.hid r4; have b4 := b3.trans (d4.mono b1.size); clear o4 d4 r4 O3 R3; have tok5 : True := trivial)
    | (have _t := tok5; clear tok5; go_at_call 11; refine (Equal_any c1 c4 R14.out R4.out).mono ?_; rintro e w5 ⟨e5, e6⟩; subst e5; subst e6; rw [decide_eq_true (rfl : packN 8 l = packN 8 l)]; have tok6 : True := trivial)
    | (have _t := tok6; clear tok6; go_at_call 12; refine (HP.out _ b4).mono ?_; rintro e w6 ⟨A6, c6, rfl, _, b6, _, _⟩; have tok7 : True := trivial)
    | (have _t := tok7; clear tok7; go_at_call 8; refine (fAwake_any _).mono ?_; rintro e w7 ⟨rfl, d7⟩; have b7 := b6.trans (d7.mono b6.size)))
  all_goals have B7 := Lib.hid b7
  all_goals go_wp2
  all_goals go_ret
  all_goals exact ⟨rfl, B7.out⟩

set_option maxHeartbeats 3200000 in
theorem split_nil (n0 c0 k : Nat) (l : List Int) (x : Int) (w : World) (h0 : RI w w.heap.size (none) n0 l) (hc0 : n0 ≤ c0) (h15 : n0 ≤ 15) (hk : k ≤ n0) (hx0 : 0 ≤ x) (hx1 : x < 256) (hxk : x % ((n0 : Int) + 1) = k) :
    Calls Try.prog 4 #[.slice (none) n0 c0, .int .u8 x] w fun e w' => e = .returned (.bool true) ∧ Below w.heap.size w w' := by
  have k0 : ¬ (15 : Int) < n0 := by omega
  have hkc : k ≤ c0 := by omega
  obtain ⟨m1, hm1⟩ : ∃ m1, 8 * n0 = m1 := ⟨_, rfl⟩
  have HP := Lib.hid (packAt w (none) n0 c0 m1 l h0 hc0 h15 hm1)
  have hw8 : IntKind.i64.wrap (8 * (n0 : Int)) = (m1 : Int) := by rw [IntKind.wrap_i64]; first | (unfold wrap64; omega) | omega
  clear hm1
  have HK := Lib.hid (packAt w (none) k c0 (8 * k) _ (h0.some_ k hk) hkc (by omega) rfl)
  have HS := Lib.hid (packN_append 8 (l.take k) (l.drop k))
  rw [List.take_append_drop] at HS
  obtain ⟨m3, hm3⟩ : ∃ m3, 8 * (n0 - k) = m3 := ⟨_, rfl⟩
  have hm3' : 8 * k + m3 ≤ 120 := by omega
  have HD := Lib.hid (packAt w none (n0 - k) (c0 - k) m3 (l.drop k) (by obtain ⟨h1, h2, h3⟩ := h0; exact ⟨by rw [List.length_drop, h1], fun x hx => h2 x (List.mem_of_mem_drop hx), fun h => by obtain ⟨b, off, e, _⟩ := h3 (by omega); cases e⟩) (by omega) (by omega) hm3)
  clear hm3
  go_enter Try.func4, Try.ntmps4
  go_wp2_with fail
  have hb0 : Below w.heap.size w w.drew := (Below.refl _ _).drew
  have tok1 : True := trivial
  go_region_held3 (fun _ => True) (first | trivial)
    (first
    | (have _t := tok1; clear tok1; go_at_call 12; refine (HP.out _ hb0).mono ?_; rintro e w1 ⟨A1, c1, rfl, o1, b1, _, r1⟩; have R1 := Lib.hid r1; clear o1 r1; have tok2 : True := trivial)
    | (have _t := tok2; clear tok2; go_at_call 12; refine (HK.out _ b1).mono ?_; rintro e w2 ⟨A2, c2, rfl, o2, b2, d2, _⟩; have O2 := Lib.hid o2; have D2 := Lib.hid d2; clear o2 d2; have tok3 : True := trivial)
    | (have _t := tok3; clear tok3; go_at_call 12; refine (HD.out _ b2).mono ?_; rintro e w3 ⟨A3, c3, rfl, o3, b3, d3, r3⟩; have O3 := Lib.hid (own_later O2.out d3); have R3 := Lib.hid r3; have D3 := Lib.hid (D2.out.trans (d3.mono D2.out.size)); clear o3 d3 r3 O2; have tok4 : True := trivial)
    | (have _t := tok4; clear tok4; refine step_append_bytes2 rfl (.tmp 21) (.tmp 25) rfl w1.heap.size _ (8 * k) _ rfl O3.out _ A3 m3 c3 _ rfl R3.out (by omega) D3.out.size ?_; intro v4 w4 o4 d4; rw [← HS.out] at o4; have HH := read_own o4 (packN_bytes _ _); obtain ⟨A4, c4, e4, _, r4⟩ := HH; subst e4; have R14 := Lib.hid (R1.out.below (D3.out.trans d4)); have R4 := Lib.hid r4; have b4 := b3.trans (d4.mono b1.size); clear o4 d4 r4 O3 R3; have tok5 : True := trivial)
    | (have _t := tok5; clear tok5; go_at_call 11; refine (Equal_any c1 c4 R14.out R4.out).mono ?_; rintro e w5 ⟨e5, e6⟩; subst e5; subst e6; rw [decide_eq_true (rfl : packN 8 l = packN 8 l)]; have tok6 : True := trivial)
    | (have _t := tok6; clear tok6; go_at_call 12; refine (HP.out _ b4).mono ?_; rintro e w6 ⟨A6, c6, rfl, _, b6, _, _⟩; have tok7 : True := trivial)
    | (have _t := tok7; clear tok7; go_at_call 8; refine (fAwake_any _).mono ?_; rintro e w7 ⟨rfl, d7⟩; have b7 := b6.trans (d7.mono b6.size)))
  all_goals have B7 := Lib.hid b7
  all_goals go_wp2
  all_goals go_ret
  all_goals exact ⟨rfl, B7.out⟩

set_option maxHeartbeats 1600000 in
theorem fieldSplit_walk (A0 : Option Addr) (n0 c0 : Nat) (l : List Int) (x : Nat) (w : World) (h0 : RI w w.heap.size A0 n0 l) (hc0 : n0 ≤ c0) (hx : x < 256) (hA : ∀ ad, A0 = some ad → 0 < c0 → ad.spot = none) :
    Calls Try.prog 4 #[.slice A0 n0 c0, .int .u8 (x : Int)] w fun e w' => e = .returned (.bool true) ∧ Below w.heap.size w w' := by
  by_cases hbig : 15 < n0
  · have k0 : (15 : Int) < n0 := by omega
    go_enter Try.func4, Try.ntmps4
    go_wp2_with (go_at_call 8; refine (fAwake_any _).mono ?_; rintro e w' ⟨rfl, hbb⟩)
    go_ret
    exact ⟨rfl, hbb⟩
  · have h15 : n0 ≤ 15 := by omega
    have hk : x % (n0 + 1) ≤ n0 := by have := Nat.mod_lt x (show 0 < n0 + 1 by omega); omega
    have hxk : (x : Int) % ((n0 : Int) + 1) = ((x % (n0 + 1) : Nat) : Int) := by rw [Int.natCast_emod]; rfl
    cases A0 with
    | none => exact split_nil n0 c0 _ l x w h0 hc0 h15 hk (by omega) (by omega) hxk
    | some ad =>
      by_cases hck : c0 = x % (n0 + 1)
      · have e1 : n0 = c0 := by omega
        subst e1
        exact split_full ad n0 l x w h0 h15 (by omega) (by omega) (by rw [hxk]; exact congrArg Nat.cast hck.symm)
      · have hsp := hA ad rfl (by omega)
        obtain ⟨b, off, spot⟩ := ad
        obtain rfl : spot = none := hsp
        exact split_in b off n0 c0 _ l x w h0 hc0 h15 hk (by omega) (by omega) hxk hck

end Go.Proofs.Ytocejddighjieaa
