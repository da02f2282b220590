/-
  The texts ExuP, DiskDevB joined. Conditions: those that each part says at its head.
-/
import Derived.Test.YtfbljmkjiaklfaaGreatDoorG48
import Derived.Test.YtfbljmkjiaklfaaGreatDoorG16
import Derived.Test.YtfbljmkjiaklfaaGreatDoorG4

/-
  The check of layer 12's laws: it returns true. Condition: the table that crc.Step reads holds what the program's text lays in it.
-/
namespace Go.Proofs.YtfbljmkjiaklfaaGreatDoor
open Go.RowKit
set_option maxRecDepth 100000
set_option linter.unusedVariables false

section
variable {D : World → (Nat → Prop) → Addr → DS → Prop}
set_option maxHeartbeats 6400000 in
theorem extAwake_any (api : DiskApi D) (w : World) (ht : Tab w ∧ 1 < w.heap.size) :
    Calls Tryz.prog 9 #[] w fun e w' => e = .returned (.bool true) ∧ Below w.heap.size w w' := by
  have HFR := Lib.hid (fresh12_any api w ht (P := 200) (by decide))
  obtain ⟨S, hS⟩ : ∃ S, S = S12 (2 * 200 + 1) := ⟨_, rfl⟩
  rw [← hS] at HFR
  have hSn : S.n = 2 * 200 + 1 := by rw [hS]; exact (S12_facts (n := 2 * 200 + 1) (by decide)).1
  have hn : pagesOf S.n = 200 := by rw [hSn]; decide
  have hP : S.P = 200 := hn
  have hlen : LenS S := by rw [hS]; exact S12_len (n := 2 * 200 + 1) (by decide)
  clear hS hSn
  have kc := fun (w : World) (C : Array Value) (n c : Nat) => Lib.run_convert_bytes_const (P := Tryz.prog) w 46 5 C n c Tryz.underlying46 Tryz.underlying5
  have kc2 : ∀ (w : World) (o : Obj) (C : Array Value) (n c : Nat), (convert 46 46 (.slice (some ⟨w.heap.size + 1, 0, none⟩) n c)).run Tryz.prog ((w.alloc o).alloc (.cells C 5)) = .ok (.slice (some ⟨w.heap.size + 1, 0, none⟩) n c) ((w.alloc o).alloc (.cells C 5 (C.size, C.size + 1))) := fun w o C n c => by
    have h := kc (w.alloc o) C n c
    rw [show (w.alloc o).heap.size = w.heap.size + 1 by simp] at h
    exact h
  go_enter Tryz.func9, Tryz.ntmps9
  go_wp2_with fail
  refine HFR.out.mono ?_
  rintro e w1 ⟨r, b, q, F, p, rfl, hpg, hb1, hO⟩
  have htab : TabF w1 F := ⟨ht.1.below hb1 ht.2, Nat.lt_of_lt_of_le ht.2 hb1.size, fun hf => by have := hO _ (.inl hf); omega⟩
  have HFO := Lib.hid (awMade api hP hn hlen hpg htab (fun hf => by have := hO _ hf; omega) hb1 hO)
  clear hpg htab hb1 hO HFR
  go_wp2_with fail
  refine HFO.out.mono ?_
  rintro e w2 ⟨st, rfl, hT2⟩
  have b1 := litX_below w2 97
  have b2 := litX_below (w2.alloc (litX 97)) 120
  have z1 : (w2.alloc (litX 97)).heap.size = w2.heap.size + 1 := by simp
  have z2 : ((w2.alloc (litX 97)).alloc (litX 120)).heap.size = w2.heap.size + 1 + 1 := by simp
  have L1 := (litX_any w2 97 (by decide)).below (by rw [← z1]; exact b2)
  have L2 := litX_any (w2.alloc (litX 97)) 120 (by decide)
  rw [z1] at L2
  have HP1 := Lib.hid (awOne api hP hn ((hT2.below api b1).below api b2) L1 (by omega) L2 (by omega))
  clear b1 b2 z1 z2 L1 L2
  unfold litX at HP1
  clear HFO hT2
  go_wp2_with fail
  refine HP1.out.mono ?_
  rintro e w3 ⟨rfl, hT3⟩
  have HP2 := Lib.hid (awTwo api hP hn (hT3.below api (litX_below w3 98)) (litX_any w3 98 (by decide)) (by simp))
  unfold litX at HP2
  clear HP1 hT3
  go_wp2_with fail
  refine HP2.out.mono ?_
  rintro e w4 ⟨rfl, O, t1, t2, t3⟩
  have b4 := litX_below w4 97
  have z4 : (w4.alloc (litX 97)).heap.size = w4.heap.size + 1 := by simp
  have HG := Lib.hid (awGot api hn (t1.below api b4) (litX_any w4 97 (by decide)) (by omega))
  have HT4 := Lib.hid (And.intro (t1.below api b4) (And.intro (t2.trans (b4.mono t2.size)) t3))
  have HO4 := Lib.hid (show ∀ k, O k → k < w4.heap.size from fun k hk => t1.at_.pg.lt k hk)
  have HZ4 := Lib.hid z4
  unfold litX at HG HT4 HZ4
  clear HP2 t1 t2 t3 b4 z4
  go_wp2_with fail
  refine HG.out.mono ?_
  rintro e w5 ⟨A, cA, rfl, hr5, hnew5, hb5⟩
  obtain ⟨t1, t2, t3⟩ := HT4.out
  have b5 := litX_below w5 98
  have z5 : (w5.alloc (litX 98)).heap.size = w5.heap.size + 1 := by simp
  have t2' := (t2.trans (hb5.mono t2.size))
  have HDL := Lib.hid (awGone api hP hn ((t1.below api hb5).below api b5) (t2'.trans (b5.mono t2'.size)) t3 (litX_any w5 98 (by decide)) (by omega) ((hr5.below b5).more b5.size) (fun a ha h0 hOa => by
    have h1 := HO4.out _ hOa
    have h2 := hnew5 a ha h0
    have h3 := HZ4.out
    omega))
  unfold litX at HDL
  clear HG t1 t2 t3 t2' b5 z5 hr5 hnew5 hb5 HT4 HO4 HZ4
  go_wp2_with fail
  refine HDL.out.mono ?_
  rintro e w6 ⟨rfl, ⟨O', t1, t2, t3⟩, hr6⟩
  have hcv : (convert 46 9 (.slice A 1 cA)).run Tryz.prog w6 = .ok (.string ⟨#[120]⟩) w6 := hr6.conv cA
  have HLN := Lib.hid (store_len api t1 (awHead 1 (.inr (.inl rfl)) [kA]))
  have HB6 := Lib.hid t2
  clear HDL t1 t2 t3 hr6
  go_wp2_with fail
  refine HLN.out.mono ?_
  rintro e w7 ⟨rfl, hb7⟩
  have HE := Lib.hid (HB6.out.trans (hb7.mono HB6.out.size))
  clear hb7 HLN
  go_wp2_with fail
  go_ret
  exact ⟨rfl, HE.out⟩
end
end Go.Proofs.YtfbljmkjiaklfaaGreatDoor

/-
  The program's disk answers as it is to. Conditions: those of the contracts (a list of at most 2^63 - 1 places; fewer than 2^63 - 1 writes; a sector of at most 4,096 bytes).
-/
namespace Go.Proofs.YtfbljmkjiaklfaaGreatDoor
open Go.RowKit
set_option maxRecDepth 100000
set_option linter.unusedVariables false

theorem disk_said : ∃ D, DiskApi D := by
  refine ⟨DAt, ?_⟩
  exact {
    keep := fun w w' F p S h hk => h.keep hk
    lt := fun w F p S h => by
      obtain ⟨b, sb, fb, left, pv, sN, fN, sf, ff, rfl, hrow, hrest, harm, hok, hdom, hcnt, hFb, hlt⟩ := h
      exact hlt
    ok := fun w F p S h => by
      obtain ⟨b, sb, fb, left, pv, sN, fN, sf, ff, rfl, hrow, hrest, harm, hok, hdom, hcnt, hFb, hlt⟩ := h
      exact hok
    new := fun n w h1 h2 => by
      obtain ⟨k, rfl⟩ := Int.eq_ofNat_of_zero_le (show 0 ≤ n by omega)
      refine (new_yes k w (by omega) (by omega)).mono ?_
      rintro e w' ⟨p, rfl, F', hd, ht, hF⟩
      refine ⟨p, F', rfl, hd, ht.below (fun k h => absurd h id) (Nat.le_refl _), fun k hk => ?_⟩
      rcases hF k hk with a | a
      · exact absurd a id
      · exact a
    newNo := fun n w h => new_no n w h
    read := read_dev
    readAt := read_at
    write := fun i A n c B l w F p S h hr hc hn hw hA => write_dev i A n c B l w F p S h hr hc hn hw hA
    flush := flush_dev
    sizes := size_dev
    sizeSame := size_same }

end Go.Proofs.YtfbljmkjiaklfaaGreatDoor
