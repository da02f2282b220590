/-
  The texts KvS, KvK, KvW, KvX, DiskDevB joined. Conditions: those that each part says at its head.
-/
import Derived.Test.YtinhdimalhfgkaaGreatDoorG45
import Derived.Test.YtinhdimalhfgkaaGreatDoorG13
import Derived.Test.YtinhdimalhfgkaaGreatDoorG7
import Derived.LoopN

/-
  What a store on a disk answers: contracts of Len, Pages, Scan. Condition: what the store's pages tell.
-/
namespace Go.Proofs.YtinhdimalhfgkaaGreatDoor
open Go.RowKit
set_option maxRecDepth 100000
set_option linter.unusedVariables false

theorem delE_nil (w : World) (k : Nat) (fv : Value) : Calls Tryz.prog 71 #[.slice none 0 k, fv] w fun e w' => e = .returned (.slice none 0 k) ∧ w = w' := by
  have HI : Calls Tryz.prog 128 #[.slice none 0 k, fv] w fun e w' => e = .returned (.int .i64 (-1)) ∧ w = w' := by
    go_enter Tryz.func128, Tryz.ntmps128
    go_wp2_with fail
    refine wp_loop_rounds 1 ?_
    rw [rounds_succ]
    go_wp2
    go_ret
    exact ⟨rfl, rfl⟩
  have HI := Lib.hid HI
  go_enter Tryz.func71, Tryz.ntmps71
  go_wp2_with fail
  refine HI.out.mono ?_
  rintro e w' ⟨rfl, rfl⟩
  go_wp2
  go_ret
  exact ⟨rfl, rfl⟩
section
variable {D : World → (Nat → Prop) → Addr → DS → Prop} {w0 w w' : World} {F O : Nat → Prop} {p : Addr} {S : DS} {q r b st kb : Nat} {seq : Int} {L : List (Int × List Int)}
set_option maxHeartbeats 800000 in
theorem kvLen_any (api : DiskApi D) (h : KvO D w0 w F O p S q seq r b st kb L) {M : MV} (hM : HeadIs S L M) : Calls Tryz.prog 28 #[.pointer (some ⟨kb, 0, none⟩)] w fun e w' => e = .returned (.int .i64 M.c) ∧ Below w.heap.size w w' := by
  obtain ⟨c0, _, _⟩ := h.2.2.2.1.cells
  have HR := Lib.hid (kvReady_any h.2.2.2.1)
  have HL := Lib.hid (store_len api h.1 hM)
  clear h hM
  go_enter Tryz.func28, Tryz.ntmps28
  go_wp2_with fail
  refine HR.out.mono ?_
  rintro e w1 ⟨rfl, rfl⟩
  go_wp2_with fail
  refine HL.out.mono ?_
  rintro e w2 ⟨rfl, hb⟩
  have HB := Lib.hid hb
  clear hb HL HR
  go_wp2
  go_ret
  exact ⟨rfl, HB.out⟩
set_option maxHeartbeats 800000 in
theorem kvPages_any (api : DiskApi D) (h : KvO D w0 w F O p S q seq r b st kb L) : Calls Tryz.prog 29 #[.pointer (some ⟨kb, 0, none⟩)] w fun e w' => e = .returned (.int .i64 (pagesOf S.n)) ∧ w' = w := by
  obtain ⟨c0, _, _⟩ := h.2.2.2.1.cells
  have c1 := h.1.at_.sto.cell
  have HR := Lib.hid (kvMade_any h.2.2.2.1)
  have HL := Lib.hid (ppages_any api h.1.at_.pg)
  clear h
  go_enter Tryz.func29, Tryz.ntmps29
  go_wp2_with fail
  refine HR.out.mono ?_
  rintro e w1 ⟨rfl, rfl⟩
  go_wp2_with fail
  refine HL.out.mono ?_
  rintro e w2 ⟨rfl, rfl⟩
  clear HL HR c0 c1
  go_wp2
  go_ret
  exact ⟨rfl, rfl⟩
set_option maxHeartbeats 3200000 in
theorem kvScan_any (api : DiskApi D) (h : KvO D w0 w F O p S q seq r b st kb L) {M : MV} (hM : HeadIs S L M) {D0 : Nat} {pgs : Nat → Int} {cs : Nat → List Leaf} {bd : Nat → Nat} (hA : AllOk S L M D0 pgs cs bd) {PA : Option Addr} {pn pc : Nat} {pre : List Int} (hp : RB w w.heap.size PA pn pre) (hpn : pn ≤ maxLen) :
    Calls Tryz.prog 23 #[.pointer (some ⟨kb, 0, none⟩), .slice PA pn pc] w fun e w' => ∃ (v : Value) (ps : List KV) (Y : Nat → Prop) (base : Nat), e = .returned (.tuple #[v, .int .i64 0]) ∧ ps.Perm (allSt cs bd (2 ^ D0)).2.1 ∧ ps.Pairwise (fun x y => tx x.1 < tx y.1) ∧ GRow PairS 95 2 w' Y base v (ps.filter fun x => preB pre x.1) ∧ (∀ k, k < w.heap.size → Y k) ∧ Below w.heap.size w w' := by
  obtain ⟨w1, hw1⟩ : ∃ w1, w1 = w.alloc (.cells #[.slice PA pn pc] 46) := ⟨_, rfl⟩
  have hb1 : Below w.heap.size w w1 := by rw [hw1]; exact (Below.refl _ _).alloc (Nat.le_refl _) _
  have hs1 : w1.heap.size = w.heap.size + 1 := by rw [hw1]; simp
  have hbx : w1.cell? ⟨w.heap.size, 0, none⟩ = some (.slice PA pn pc) := by
    rw [hw1, cell_of_row _ w.heap.size 0 _ _ (0, 0) (heap_alloc_new _ _)]; rfl
  have h1 := h.below api hb1
  obtain ⟨c0, _, _⟩ := h1.2.2.2.1.cells
  have HR := Lib.hid (kvReady_any h1.2.2.2.1)
  have HALL := Lib.hid (extAll_any api h1.1.at_ hM hA)
  have HFEW : (allSt cs bd (2 ^ D0)).2.1.length ≤ 1073741824 := hA.few
  have HPX := Lib.hid (And.intro hb1 (And.intro hbx (And.intro (hp.below hb1) hs1)))
  have hpb : ∀ a, PA = some a → 0 < pn → a.block < w.heap.size := fun a ha h0 => by
    obtain ⟨bb, off, e, hb, _⟩ := hp.2.2 h0
    rw [ha] at e
    injection e with e
    rw [e]
    exact hb
  have HPB := Lib.hid hpb
  clear h hM hA hp hb1 hs1 hbx h1 hpb
  go_enter Tryz.func23, Tryz.ntmps23
  go_wp2_with fail
  rw [← hw1]
  clear hw1
  refine HR.out.mono ?_
  rintro e w2 ⟨rfl, rfl⟩
  go_wp2_with fail
  refine HALL.out.mono ?_
  rintro e w3 ⟨v, ps, Y, base, rfl, hperm, hup, hrow, hlow, hbase, hb3, hYl⟩
  obtain ⟨q1, q2, q3, q4⟩ := HPX.out
  have hlen : ps.length ≤ 1073741824 := by rw [hperm.length_eq]; exact HFEW
  have HE := Lib.hid (And.intro hperm (And.intro hup (And.intro hlow (And.intro (q1.trans (hb3.mono q1.size)) hbase))))
  have hbel : Below w.heap.size w w3 := q1.trans (hb3.mono q1.size)
  obtain ⟨vs, hown, _⟩ := hrow.row
  rcases hown.2 with ⟨e0, el⟩ | ⟨g, cap, cur, e0, hbg, _⟩
  · subst e0
    obtain rfl : ps = [] := List.eq_nil_of_length_eq_zero el
    have HD := Lib.hid (delE_nil w3 0 (.func (.func 69) #[] #[.pointer (some ⟨w.heap.size, 0, none⟩)]))
    clear hown hrow hYl hb3 hperm hup hlow hbase hlen
    go_wp2_with fail
    refine HD.out.mono ?_
    rintro e w4 ⟨rfl, rfl⟩
    go_wp2
    go_ret2
    obtain ⟨e1, e2, e3, e4, e5⟩ := HE.out
    exact ⟨_, [], Y, base, rfl, e1, e2, GRow.start _ _ _, fun k hk => e3 k (by have := HPX.out.2.2.2; omega), e4⟩
  · subst e0
    have hD := delE_any (bx := w.heap.size) (P := fun x => !preB pre x.1) hrow.ofE hYl (kvChd_any (pn := pn) (pc := pc) (PA := PA) ((hb3.cell (p := ⟨w.heap.size, 0, none⟩) (by show w.heap.size < _; omega)).trans q2) (Nat.lt_of_lt_of_le (by omega) hb3.size) (by omega) ((q3.below (hb3.mono (by omega))).more (by have := hb3.size; omega)) hpn (fun a ha h0 => by have := HPB.out a ha h0; omega)) (by omega)
    have ef : (ps.filter fun x => !(fun x : KV => !preB pre x.1) x) = ps.filter fun x => preB pre x.1 := by
      congr 1
      funext x
      show (!(!preB pre x.1)) = _
      rw [Bool.not_not]
    rw [ef] at hD
    obtain ⟨fs, hfs⟩ : ∃ fs, fs = ps.filter fun x => preB pre x.1 := ⟨_, rfl⟩
    rw [← hfs] at hD
    have HFS := Lib.hid hfs
    have HD := Lib.hid hD
    have HG := Lib.hid hbg
    have HS3 := Lib.hid (And.intro hb3.size q4)
    clear hown hrow hYl hb3 hperm hup hlow hbase hlen hD ef hbg hfs
    go_wp2_with fail
    refine HD.out.mono ?_
    rintro e w4 ⟨rfl, hg4, ht4⟩
    have HF := Lib.hid (And.intro hg4 ht4)
    clear hg4 ht4 HD
    go_wp2
    go_ret2
    obtain ⟨e1, e2, e3, e4, e5⟩ := HE.out
    have h1 := HG.out
    obtain ⟨h2, h3⟩ := HS3.out
    refine ⟨_, ps, Y, base, rfl, e1, e2, ?_, fun k hk => e3 k (by omega), e4.trans (Touch.below (B := w.heap.size) HF.out.2 (fun k hk => by omega) e4.size)⟩
    rw [← HFS.out]
    exact HF.out.1
end
end Go.Proofs.YtinhdimalhfgkaaGreatDoor

/-
  The check of layer 13's laws, call by call. Condition: the table that crc.Step reads holds what the program's text lays in it.
-/
namespace Go.Proofs.YtinhdimalhfgkaaGreatDoor
open Go.RowKit
set_option maxRecDepth 100000
set_option linter.unusedVariables false

section
variable {D : World → (Nat → Prop) → Addr → DS → Prop} {w0 w w' : World} {F O : Nat → Prop} {p : Addr} {S : DS} {q r b st kb g : Nat} {seq : Int} {L : List (Int × List Int)}
/-- The check's store, settled, with c pairs. -/
def Aw13 (D : World → (Nat → Prop) → Addr → DS → Prop) (w0 : World) (p : Addr) (seq : Int) (c : Int) (ps : List KV) (wr : Nat) (kb : Nat) (w : World) : Prop :=
  ∃ F O S q r b st f, KvO D w0 w F O p S q seq r b st kb [] ∧ Shows S [] c ps ∧ Kp S f seq ∧ S.n = 2601 ∧ S.writes ≤ wr
theorem Aw13.below (api : DiskApi D) {c : Int} {ps : List KV} {wr : Nat} (h : Aw13 D w0 p seq c ps wr kb w) (hb : Below w.heap.size w w') : Aw13 D w0 p seq c ps wr kb w' := by
  obtain ⟨F, O, S, q, r, b, st, f, h1, h2⟩ := h
  exact ⟨F, O, S, q, r, b, st, f, h1.below api hb, h2⟩
theorem n2601 {S : DS} (h : S.n = 2601) : (200 ≤ S.P ∧ S.P ≤ 3000) ∧ (200 ≤ pagesOf S.n ∧ pagesOf S.n ≤ 3000) ∧ pagesOf S.n = 1300 := by
  have e : pagesOf (S.n : Int) = 1300 := by rw [h]; decide
  have e2 : S.P = 1300 := e
  omega
theorem aw13_format (api : DiskApi D) (h : LawD D w0 w F p (DS.new 2601)) :
    Calls Tryz.prog 26 #[.pointer (some p)] w fun e w' => ∃ kb, e = .returned (.tuple #[.pointer (some ⟨kb, 0, none⟩), .int .i64 0]) ∧ Aw13 D w0 p 2 0 [] 100 kb w' := by
  refine (kvFormat_any api (m := 2601) (by decide) h).mono ?_
  rintro e w' ⟨kb, st, r, b, q, F', rfl, ⟨O, hT⟩, up, all⟩
  obtain ⟨k1, k2, k3⟩ := Kp.first (n := 2601) (by decide)
  obtain ⟨c1, c2, c3, c4, ⟨f', cK⟩, c5⟩ := k1.commit up all (by decide) (by decide)
  obtain ⟨_, _, n3⟩ := n2601 k2
  refine ⟨kb, rfl, F', O, _, q, r, b, st, f', hT, (Shows.first (S := S12 2601)).of_eq (fun i i0 i1 => c5 i i0 (by omega)), cK, by rw [c3, k2], ?_⟩
  rw [c4, k3]
  decide
theorem aw13_write (api : DiskApi D) {c : Nat} (h : Aw13 D w0 p 2 0 [] 100 kb w) (hg : Below w.heap.size w w') (hst : ∀ O : Nat → Prop, (∀ k, O k → k < w.heap.size) → Stays w' O (some ⟨g, 0, none⟩) 2 kvL) :
    Calls Tryz.prog 27 #[.pointer (some ⟨kb, 0, none⟩), .slice (some ⟨g, 0, none⟩) 2 c, .slice none 0 0] w' fun e w' => e = .returned (.int .i64 0) ∧ Aw13 D w0 p 3 2 kvL 100000 kb w' := by
  obtain ⟨F, O, S, q, r, b, st, f, h1, h2, h3, h4, h5⟩ := h
  obtain ⟨n1, n2, n3⟩ := n2601 h4
  refine (kvWrite_aw (g := g) (c := c) api n1 n2 h3 (by decide) (by omega) ⟨[], O, h1.below api hg, h2, hst O (fun k hk => h1.1.at_.pg.lt k hk), by decide, .inl rfl⟩).mono ?_
  rintro e w'' ⟨rfl, F', S', ⟨O', a1⟩, a2, ⟨f', a3⟩, a4, a5⟩
  exact ⟨rfl, F', O', S', q, r, b, st, f', a1, a2, a3, by rw [a4, h4], by omega⟩
theorem aw13_open (api : DiskApi D) (ht : Tab w0 ∧ 1 < w0.heap.size) (h : Aw13 D w0 p 3 2 kvL 100000 kb w) :
    Calls Tryz.prog 25 #[.pointer (some p)] w fun e w' => ∃ kb, e = .returned (.tuple #[.pointer (some ⟨kb, 0, none⟩), .int .i64 0]) ∧ ∃ F O S q r b st, KvO D w0 w' F O p S q 3 r b st kb [] ∧ Shows S [] 2 kvL ∧ S.n = 2601 := by
  obtain ⟨F, O, S, q, r, b, st, f, h1, h2, h3, h4, h5⟩ := h
  obtain ⟨o1, o2, o3, oK, oL⟩ := h3.open_
  have hL : LawD D w0 w F p S := ⟨h1.1.at_.pg.d, fun k hk => h1.2.2.1 k (h1.1.at_.pg.own k (.inl hk)), h1.2.1, ht⟩
  refine (kvOpen_any api hL (by omega) h3 (h2.head (.inr (.inr rfl)))).mono ?_
  rintro e w' ⟨kb', st', r', b', q', F', rfl, O', hT⟩
  exact ⟨kb', rfl, F', O', _, q', r', b', st', hT, h2.of_eq (fun i _ _ => oL i), by rw [o3, h4]⟩
theorem aw13_scan (api : DiskApi D) (h : KvO D w0 w F O p S q 3 r b st kb []) (hS : Shows S [] 2 kvL) (hn : S.n = 2601) {PA : Option Addr} {pc : Nat} (hp : RB w w.heap.size PA 1 [97]) :
    Calls Tryz.prog 23 #[.pointer (some ⟨kb, 0, none⟩), .slice PA 1 pc] w fun e w' => ∃ g cap A c, e = .returned (.tuple #[.slice (some ⟨g, 0, none⟩) 1 cap, .int .i64 0]) ∧ w'.cell? ⟨g, 1, none⟩ = some (.slice A 1 c) ∧ RB w' w'.heap.size A 1 [120] ∧ Below w.heap.size w w' := by
  obtain ⟨n1, n2, n3⟩ := n2601 hn
  have hA := hS.all n2 parseA2 (by decide) (by decide)
  refine (kvScan_any (pc := pc) api h (hS.head (.inr (.inr rfl))) hA hp (by decide)).mono ?_
  rintro e w' ⟨v, ps, Y, base, rfl, hperm, hup, hrow, hlow, hbel⟩
  have e1 : (allSt (fun _ => [⟨2, 0, 0, kvL⟩]) (fun _ => 0) (2 ^ 0)).2.1 = kvL := by
    show (allSt _ _ (0 + 1)).2.1 = _
    rw [allSt_new rfl]
    rfl
  rw [e1] at hperm
  have hf : (ps.filter fun x => preB [97] x.1) = [kAB] := by
    have h1 := hperm.filter (fun x => preB [97] x.1)
    rw [show (kvL.filter fun x => preB [97] x.1) = [kAB] by decide] at h1
    exact List.perm_singleton.1 h1
  rw [hf] at hrow
  obtain ⟨vs, hown, _⟩ := hrow.row
  rcases hown.2 with ⟨e0, el⟩ | ⟨g, cap, cur, e0, hbg, _⟩
  · exact absurd el (by decide)
  · subst e0
    obtain ⟨_, _, _, vs, hr, hvs⟩ := hrow.openE
    obtain ⟨u1, u2, v1, v2, s1, A, n, c, rfl, b1, b2, r2, _⟩ := hvs 0 kAB rfl
    have hn1 : 1 = n := r2.1
    subst hn1
    exact ⟨g, cap, A, c, rfl, hr.cell v2, r2, hbel⟩
end
end Go.Proofs.YtinhdimalhfgkaaGreatDoor

/-
  The check of layer 13's laws: it returns true. Condition: the table that crc.Step reads holds what the program's text lays in it.
-/
namespace Go.Proofs.YtinhdimalhfgkaaGreatDoor
open Go.RowKit
set_option maxRecDepth 100000
set_option linter.unusedVariables false

/-- The check's literals, as the program makes them. -/
def litAB : Obj := .cells #[.int .u8 97, .int .u8 98] 5 (2, 3)
def litW (w : World) : World := ((w.alloc litAB).alloc (litX 120)).alloc (litX 98)
def litRow (n : Nat) : Obj := .cells #[.slice (some ⟨n, 0, none⟩) 2 2, .slice (some ⟨n + 1, 0, none⟩) 1 1, .slice (some ⟨n + 1 + 1, 0, none⟩) 1 1, .slice none 0 0] 95
theorem lits13 (w : World) : Below w.heap.size w ((litW w).alloc (litRow w.heap.size)) ∧ ∀ O : Nat → Prop, (∀ k, O k → k < w.heap.size) → Stays ((litW w).alloc (litRow w.heap.size)) O (some ⟨w.heap.size + 1 + 1 + 1, 0, none⟩) 2 kvL := by
  have z1 : (w.alloc litAB).heap.size = w.heap.size + 1 := by simp
  have z2 : ((w.alloc litAB).alloc (litX 120)).heap.size = w.heap.size + 1 + 1 := by simp
  have z3 : (litW w).heap.size = w.heap.size + 1 + 1 + 1 := by simp [litW]
  have b1 : Below w.heap.size w (w.alloc litAB) := (Below.refl _ _).alloc (Nat.le_refl _) _
  have b2 := litX_below (w.alloc litAB) 120
  have b3 : Below ((w.alloc litAB).alloc (litX 120)).heap.size ((w.alloc litAB).alloc (litX 120)) (litW w) := litX_below _ 98
  have b4 : Below (litW w).heap.size (litW w) ((litW w).alloc (litRow w.heap.size)) := (Below.refl _ _).alloc (Nat.le_refl _) _
  have z4 : ((litW w).alloc (litRow w.heap.size)).heap.size = w.heap.size + 1 + 1 + 1 + 1 := by simp [litW]
  have r1 : RB (w.alloc litAB) (w.heap.size + 1) (some ⟨w.heap.size, 0, none⟩) 2 [97, 98] := RB.mark w 5 [97, 98] #[.int .u8 97, .int .u8 98] (2, 3) rfl (fun y hy => by
    rcases List.mem_cons.1 hy with rfl | hy
    · decide
    · obtain rfl := List.mem_singleton.1 hy; decide)
  have r2 := litX_any (w.alloc litAB) 120 (by decide)
  have r3 := litX_any ((w.alloc litAB).alloc (litX 120)) 98 (by decide)
  have hrow : ((litW w).alloc (litRow w.heap.size)).heap[w.heap.size + 1 + 1 + 1]? = some (litRow w.heap.size) := by rw [← z3]; exact heap_alloc_new _ _
  have B14 : Below (w.heap.size + 1) (w.alloc litAB) ((litW w).alloc (litRow w.heap.size)) := by
    rw [← z1]
    exact b2.trans ((b3.mono (by omega)).trans (b4.mono (by omega)))
  have B24 : Below (w.heap.size + 1 + 1) ((w.alloc litAB).alloc (litX 120)) ((litW w).alloc (litRow w.heap.size)) := by
    rw [← z2]
    exact b3.trans (b4.mono (by omega))
  have B34 : Below (w.heap.size + 1 + 1 + 1) (litW w) ((litW w).alloc (litRow w.heap.size)) := by
    rw [← z3]
    exact b4
  refine ⟨b1.trans (B14.mono (by omega)), fun O hO W hW hk => ⟨rfl, fun _ => ⟨w.heap.size + 1 + 1 + 1, 0, rfl, by omega, ?_⟩⟩⟩
  have nO : ∀ k, w.heap.size ≤ k → ¬ O k := fun k hk' ho => by have := hO k ho; omega
  have cw : ∀ j, W.cell? ⟨w.heap.size + 1 + 1 + 1, j, none⟩ = ((litW w).alloc (litRow w.heap.size)).cell? ⟨w.heap.size + 1 + 1 + 1, j, none⟩ := fun j => World.cell?_of_block (a := ⟨w.heap.size + 1 + 1 + 1, j, none⟩) (hk (w.heap.size + 1 + 1 + 1) (by omega) (nO (w.heap.size + 1 + 1 + 1) (by omega)))
  have mv : ∀ {m n : Nat} {l : List Int} {V : World}, w.heap.size ≤ m → RB V V.heap.size (some ⟨m, 0, none⟩) n l → Below V.heap.size V ((litW w).alloc (litRow w.heap.size)) → RB W W.heap.size (some ⟨m, 0, none⟩) n l := fun {m n l V} hm hr hb => by
    have h1 := (hr.below hb).more hb.size
    refine ⟨h1.1, h1.2.1, fun h0 => ?_⟩
    obtain ⟨bb, off, e, hbb, hc⟩ := h1.2.2 h0
    have em : m = bb := by injection e with e; injection e
    exact ⟨bb, off, e, Nat.lt_of_lt_of_le hbb hW, fun j hj => (World.cell?_of_block (a := ⟨bb, off + j, none⟩) (hk bb hbb (nO _ (by omega)))).trans (hc j hj)⟩
  have q1 := mv (Nat.le_refl _) (by rw [z1]; exact r1) (by rw [z1]; exact B14)
  have q2 := mv (m := w.heap.size + 1) (by omega) (by rw [z2]; rw [z1] at r2; exact r2) (by rw [z2]; exact B24)
  have q3 := mv (m := w.heap.size + 1 + 1) (by omega) (V := litW w) (by rw [z3]; rw [z2] at r3; exact r3) (by rw [z3]; exact B34)
  intro j x hx
  have hj : j = 0 ∨ j = 1 := by
    have := (List.getElem?_eq_some_iff.1 hx).1
    have : j < 2 := this
    omega
  rcases hj with rfl | rfl
  · obtain rfl : kAB = x := by simpa [kvL] using hx
    refine ⟨_, 2, 2, _, 1, 1, ?_, ?_, q1, by decide, q2, by decide⟩
    · rw [cw, cell_of_row _ _ _ _ _ (0, 0) hrow]; rfl
    · rw [cw, cell_of_row _ _ _ _ _ (0, 0) hrow]; rfl
  · obtain rfl : kB = x := by simpa [kvL] using hx
    refine ⟨_, 1, 1, none, 0, 0, ?_, ?_, q3, by decide, RB.nil_, by decide⟩
    · rw [cw, cell_of_row _ _ _ _ _ (0, 0) hrow]; rfl
    · rw [cw, cell_of_row _ _ _ _ _ (0, 0) hrow]; rfl
end Go.Proofs.YtinhdimalhfgkaaGreatDoor

/-
  The check of layer 13's laws: it returns true. Condition: the table that crc.Step reads holds what the program's text lays in it.
-/
namespace Go.Proofs.YtinhdimalhfgkaaGreatDoor
open Go.RowKit
set_option maxRecDepth 100000
set_option linter.unusedVariables false

section
variable {D : World → (Nat → Prop) → Addr → DS → Prop}
set_option maxHeartbeats 6400000 in
theorem kvAwake_any (api : DiskApi D) (w : World) (ht : Tab w ∧ 1 < w.heap.size) :
    Calls Tryz.prog 30 #[] w fun e w' => e = .returned (.bool true) ∧ Below w.heap.size w w' := by
  have HN := Lib.hid (law_new api (w0 := w) (w := w) (n := 2601) (by decide) (by decide) ht (Below.refl _ _))
  have HT := Lib.hid ht
  clear ht
  have kc := fun (w : World) (C : Array Value) (n c : Nat) => Lib.run_convert_bytes_const (P := Tryz.prog) w 46 5 C n c Tryz.underlying46 Tryz.underlying5
  have kc2 : ∀ (w : World) (o : Obj) (C : Array Value) (n c : Nat), (convert 46 46 (.slice (some ⟨w.heap.size + 1, 0, none⟩) n c)).run Tryz.prog ((w.alloc o).alloc (.cells C 5)) = .ok (.slice (some ⟨w.heap.size + 1, 0, none⟩) n c) ((w.alloc o).alloc (.cells C 5 (C.size, C.size + 1))) := fun w o C n c => by
    have h := kc (w.alloc o) C n c
    rw [show (w.alloc o).heap.size = w.heap.size + 1 by simp] at h
    exact h
  have kc3 : ∀ (w : World) (o o' : Obj) (C : Array Value) (n c : Nat), (convert 46 46 (.slice (some ⟨w.heap.size + 1 + 1, 0, none⟩) n c)).run Tryz.prog (((w.alloc o).alloc o').alloc (.cells C 5)) = .ok (.slice (some ⟨w.heap.size + 1 + 1, 0, none⟩) n c) (((w.alloc o).alloc o').alloc (.cells C 5 (C.size, C.size + 1))) := fun w o o' C n c => by
    have h := kc ((w.alloc o).alloc o') C n c
    rw [show ((w.alloc o).alloc o').heap.size = w.heap.size + 1 + 1 by simp] at h
    exact h
  go_enter Tryz.func30, Tryz.ntmps30
  go_wp2_with fail
  refine HN.out.mono ?_
  rintro e w1 ⟨p, F, rfl, L1, _⟩
  have HF := Lib.hid (aw13_format api L1)
  clear L1 HN
  go_wp2_with fail
  refine HF.out.mono ?_
  rintro e w2 ⟨kb, rfl, hA⟩
  obtain ⟨l1, l2⟩ := lits13 w2
  have HW := Lib.hid (aw13_write (c := 2) api hA l1 l2)
  unfold litW litAB litX litRow at HW
  clear hA l1 l2 HF
  go_wp2_with fail
  refine HW.out.mono ?_
  rintro e w3 ⟨rfl, hA3⟩
  have HO := Lib.hid (aw13_open api HT.out hA3)
  clear hA3 HW
  go_wp2_with fail
  refine HO.out.mono ?_
  rintro e w4 ⟨kb', rfl, F4, O4, S4, q, r, b, st, k4, s4, n4⟩
  have k5 := k4.below api (litX_below w4 97)
  have hlz : (w4.alloc (litX 97)).heap.size = w4.heap.size + 1 := by simp
  have hpre := litX_any w4 97 (by decide)
  rw [← hlz] at hpre
  have HS := Lib.hid (aw13_scan (pc := 1) api k5 s4 n4 hpre)
  have HK := Lib.hid (And.intro k5 (And.intro s4 n4))
  unfold litX at HS HK
  clear k4 k5 s4 n4 hlz hpre HO
  go_wp2_with fail
  refine HS.out.mono ?_
  rintro e w5 ⟨g, cap, A, c, rfl, hc1, hr, hb5⟩
  have hcv : (convert 46 9 (.slice A 1 c)).run Tryz.prog w5 = .ok (.string ⟨#[120]⟩) w5 := hr.conv c
  have k6 := HK.out.1.below api hb5
  have HLN := Lib.hid (kvLen_any api k6 (HK.out.2.1.head (.inr (.inr rfl))))
  have HK6 := Lib.hid (And.intro k6 HK.out.2.2)
  clear k6 hb5 hr HS HK
  go_wp2_with fail
  refine HLN.out.mono ?_
  rintro e w6 ⟨rfl, hb6⟩
  have k7 := HK6.out.1.below api hb6
  have hpgs := kvPages_any api k7
  rw [(n2601 HK6.out.2).2.2] at hpgs
  have HPG := Lib.hid hpgs
  have HE := Lib.hid k7.2.1
  clear k7 hpgs hb6 HLN HK6
  go_wp2_with fail
  refine HPG.out.mono ?_
  rintro e w7 ⟨rfl, rfl⟩
  go_wp2
  go_ret
  exact ⟨rfl, HE.out⟩
end
end Go.Proofs.YtinhdimalhfgkaaGreatDoor

/-
  The program's disk answers as it is to. Conditions: those of the contracts (a list of at most 2^63 - 1 places; fewer than 2^63 - 1 writes; a sector of at most 4,096 bytes).
-/
namespace Go.Proofs.YtinhdimalhfgkaaGreatDoor
open Go.RowKit
set_option maxRecDepth 100000
set_option linter.unusedVariables false

theorem disk_said : ∃ D, DiskApi D := by
  refine ⟨DAt, ?_⟩
  exact {
    keep := fun w w' F p S h hk => h.keep hk
    lt := fun w F p S h => by
      obtain ⟨b, sb, fb, left, pv, sN, fN, sf, ff, rfl, hrow, hrest, harm, hok, hdom, hcnt, hFb, hlt⟩ := h
      exact hlt
    ok := fun w F p S h => by
      obtain ⟨b, sb, fb, left, pv, sN, fN, sf, ff, rfl, hrow, hrest, harm, hok, hdom, hcnt, hFb, hlt⟩ := h
      exact hok
    new := fun n w h1 h2 => by
      obtain ⟨k, rfl⟩ := Int.eq_ofNat_of_zero_le (show 0 ≤ n by omega)
      refine (new_yes k w (by omega) (by omega)).mono ?_
      rintro e w' ⟨p, rfl, F', hd, ht, hF⟩
      refine ⟨p, F', rfl, hd, ht.below (fun k h => absurd h id) (Nat.le_refl _), fun k hk => ?_⟩
      rcases hF k hk with a | a
      · exact absurd a id
      · exact a
    newNo := fun n w h => new_no n w h
    read := read_dev
    readAt := read_at
    write := fun i A n c B l w F p S h hr hc hn hw hA => write_dev i A n c B l w F p S h hr hc hn hw hA
    flush := flush_dev
    sizes := size_dev
    sizeSame := size_same }

end Go.Proofs.YtinhdimalhfgkaaGreatDoor
