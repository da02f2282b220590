/-
  The texts ExvD, KvM, ExuO, ExuQ, KvB joined. Conditions: those that each part says at its head.
-/
import Derived.Test.YtinhdimalhfgkaaGreatDoorG31
import Derived.Test.YtinhdimalhfgkaaGreatDoorG43
import Derived.Test.YtinhdimalhfgkaaGreatDoorG42
import Derived.Test.YtinhdimalhfgkaaGreatDoorG40
import Derived.Test.YtinhdimalhfgkaaGreatDoorG15

/-
  Contract of All: all pairs of a store, their keys rising, in a row of the call's own. Conditions: what the store's pages tell.
-/
namespace Go.Proofs.YtinhdimalhfgkaaGreatDoor
open Go.RowKit
set_option maxRecDepth 100000
set_option linter.unusedVariables false

/-- A store's pages tell of its slots: the first page of each, its chain, its bucket's depth. -/
structure AllOk (S : DS) (L : List (Int × List Int)) (M : MV) (D0 : Nat) (pgs : Nat → Int) (cs : Nat → List Leaf) (bd : Nat → Nat) : Prop where
  dep : M.d = (D0 : Int)
  lo : D0 ≤ 10
  dir : ∀ s : Nat, s < 2 ^ D0 → dirGetR S L M.d M.l.length M.l (s : Int) = (pgs s, 0)
  ch : ∀ s : Nat, s < 2 ^ D0 → ChainOk S L M.d (pgs s) (cs s)
  hd : ∀ s : Nat, s < 2 ^ D0 → ∀ l, (cs s)[0]? = some l → l.d = (bd s : Int)
  bdl : ∀ s : Nat, s < 2 ^ D0 → bd s ≤ D0
  use_ : ((allSt cs bd (2 ^ D0)).2.2 : Int) ≤ pagesOf S.n
  pgm : pagesOf S.n ≤ 4294967296
  few : (allSt cs bd (2 ^ D0)).2.1.length ≤ 1073741824
  one : ∀ s : Nat, s < 2 ^ D0 → ∀ l ∈ cs s, l.ps.length ≤ 1073741824
  dis : ((allSt cs bd (2 ^ D0)).2.1.map fun x => tx x.1).Nodup

/-- A chain's buckets in the row that chainAt made: their cells at block cb, their pairs apart from Y. -/
def LeavesAt (W : World) (cb : Nat) (Y : Nat → Prop) (ls : List Leaf) : Prop :=
  cb < W.heap.size ∧ ∀ (i : Nat) (l : Leaf), ls[i]? = some l → ∃ (A : Option Addr) (n c : Nat), W.cell? ⟨cb, i * 4, none⟩ = some (.int .i64 l.pg) ∧ W.cell? ⟨cb, i * 4 + 1, none⟩ = some (.int .i64 l.d) ∧ W.cell? ⟨cb, i * 4 + 2, none⟩ = some (.int .i64 l.x) ∧ W.cell? ⟨cb, i * 4 + 3, none⟩ = some (.slice A n c) ∧ n ≤ c ∧ n ≤ maxLen ∧ Stays W Y A n l.ps
theorem LeavesAt.of_chain {w0 W : World} {A : Option Addr} {n c : Nat} {ls : List Leaf} (h : ChainAt w0 W (.slice A n c) ls) (h0 : 0 < ls.length) : ∃ cb, A = some ⟨cb, 0, none⟩ ∧ w0.heap.size ≤ cb ∧ LeavesAt W cb (fun j => j < w0.heap.size) ls := by
  obtain ⟨vs, hown, hvs⟩ := h.row
  rcases hown.2 with ⟨_, e0⟩ | ⟨cb, cap, cur, e, hb, hg, _, _, _, htake⟩
  · omega
  · refine ⟨cb, by injection e, hb, (Array.getElem?_eq_some_iff.1 hg).1, fun i l hl => ?_⟩
    have hi := (List.getElem?_eq_some_iff.1 hl).1
    obtain ⟨A', n', c', e4, h1, h2, h3⟩ := hvs i l hl
    have at_ : ∀ t u, ([.int .i64 l.pg, .int .i64 l.d, .int .i64 l.x, .slice A' n' c'] : List Value)[t]? = some u → W.cell? ⟨cb, i * 4 + t, none⟩ = some u := fun t u hu => by
      have ht : t < 4 := (List.getElem?_eq_some_iff.1 hu).1
      rw [← e4, List.getElem?_take, if_pos ht, List.getElem?_drop] at hu
      rw [cell_of_row W cb _ cur _ (0, 0) hg, ← hu, ← htake, List.getElem?_take, if_pos (by omega)]
      simp
    exact ⟨A', n', c', at_ 0 _ rfl, at_ 1 _ rfl, at_ 2 _ rfl, at_ 3 _ rfl, h1, h2, h3.grow (Nat.le_refl _) (fun _ _ _ => rfl) (fun k _ hk hk' => hk (.inl hk'))⟩
theorem LeavesAt.next {W W' : World} {cb : Nat} {Y Y' : Nat → Prop} {ls : List Leaf} (h : LeavesAt W cb Y ls) (hs : W.heap.size ≤ W'.heap.size) (hc : W'.heap[cb]? = W.heap[cb]?) (hst : ∀ (A' : Option Addr) (n' : Nat) (ps' : List KV), Stays W Y A' n' ps' → Stays W' Y' A' n' ps') : LeavesAt W' cb Y' ls :=
  ⟨Nat.lt_of_lt_of_le h.1 hs, fun i l hl => by
    obtain ⟨A, n, c, c0, c1, c2, c3, h1, h2, h3⟩ := h.2 i l hl
    have hk : ∀ o, W'.cell? ⟨cb, o, none⟩ = W.cell? ⟨cb, o, none⟩ := fun o => World.cell?_of_block (a := ⟨cb, o, none⟩) hc
    exact ⟨A, n, c, (hk _).trans c0, (hk _).trans c1, (hk _).trans c2, (hk _).trans c3, h1, h2, hst _ _ _ h3⟩⟩
theorem LeavesAt.below {W W' : World} {cb : Nat} {Y : Nat → Prop} {ls : List Leaf} (h : LeavesAt W cb Y ls) (hb : Below W.heap.size W W') : LeavesAt W' cb Y ls :=
  h.next hb.size (hb.block cb h.1) fun _ _ _ hs => hs.below hb

theorem mark_step {t m stp i : Nat} (hs : 0 < stp) : ((decide (t ≤ i) && decide ((i - t) % stp = 0) && decide (i < t + m * stp)) || decide (i = t + m * stp)) = (decide (t ≤ i) && decide ((i - t) % stp = 0) && decide (i < t + (m + 1) * stp)) := by
  have e1 : (m + 1) * stp = m * stp + stp := Nat.succ_mul _ _
  rw [Bool.eq_iff_iff]
  simp only [Bool.or_eq_true, Bool.and_eq_true, decide_eq_true_eq]
  rw [e1]
  constructor
  · rintro (⟨⟨h1, h2⟩, h3⟩ | rfl)
    · exact ⟨⟨h1, h2⟩, by omega⟩
    · exact ⟨⟨Nat.le_add_right _ _, by rw [Nat.add_sub_cancel_left]; exact Nat.mul_mod_left _ _⟩, by omega⟩
  · rintro ⟨⟨h1, h2⟩, h3⟩
    by_cases h4 : i < t + m * stp
    · exact .inl ⟨⟨h1, h2⟩, h4⟩
    · right
      obtain ⟨d, hd⟩ : ∃ d, i - t = m * stp + d := ⟨i - t - m * stp, by omega⟩
      rw [hd, Nat.add_comm, Nat.mul_comm, Nat.add_mul_mod_self_left] at h2
      rw [Nat.mod_eq_of_lt (by omega)] at h2
      omega
theorem wrap_step {x stp : Nat} (hx : x ≤ 1024) (hs : stp ≤ 1024) : wrap64 ((x : Int) + (stp : Int)) = ((x + stp : Nat) : Int) := by
  unfold wrap64
  omega
theorem le_step {x stp N : Nat} (hx : x < N) (h0 : N ≤ 1024) (h1 : stp ≤ 1024) : x + stp ≤ 2048 := by omega
theorem meas_step {x stp N : Nat} (hx : x < N) (h0 : 0 < stp) : N - (intOf (.int .i64 ((x + stp : Nat) : Int))).toNat < N - (intOf (.int .i64 (x : Int))).toNat := by
  simp only [intOf, Int.toNat_natCast]
  omega
theorem info_bool : (Tryz.prog.info? 4).map (fun i => (i.zero, i.size, i.bytes)) = some (some (.bool false), 1, 1) := by kernel_rfl
theorem make_bools (n : Nat) (hn : n ≤ 65536) (w : World) : (Instr.makeSlice 85 (.int .i64 (n : Int)) (.int .i64 (n : Int))).run Tryz.prog w = .ok (.slice (some ⟨w.heap.size, 0, none⟩) n n) (w.alloc (.cells (madeCells #[.bool false] n) 4)) := by
  obtain ⟨i, hi, hzz⟩ := Option.map_eq_some_iff.1 info_bool
  simp only [Prod.mk.injEq] at hzz
  obtain ⟨hz, hs, hb⟩ := hzz
  have hr := run_make (P := Tryz.prog) w 85 4 i _ Tryz.underlying85 hi hz .i64 .i64 n n (by omega) (Int.le_refl _) (by rw [hb]; omega) (by omega)
  simp only [Int.toNat_natCast, hs, Nat.mul_one] at hr
  exact hr

section
variable {D : World → (Nat → Prop) → Addr → DS → Prop} {w w' : World} {F O : Nat → Prop} {p : Addr} {S : DS} {q r b st : Nat} {seq : Int} {L : List (Int × List Int)}
set_option maxHeartbeats 6400000 in
theorem extAll_any (api : DiskApi D) (h : SAt D w F O p S q seq r b st L) {M : MV} (hM : HeadIs S L M) {D0 : Nat} {pgs : Nat → Int} {cs : Nat → List Leaf} {bd : Nat → Nat} (hA : AllOk S L M D0 pgs cs bd) :
    Calls Tryz.prog 12 #[.pointer (some ⟨st, 0, none⟩)] w fun e w' => ∃ (v : Value) (ps : List KV) (Y : Nat → Prop) (base : Nat), e = .returned (.tuple #[v, .int .i64 0]) ∧ ps.Perm (allSt cs bd (2 ^ D0)).2.1 ∧ ps.Pairwise (fun x y => tx x.1 < tx y.1) ∧ GRow PairE 95 2 w' Y base v ps ∧ (∀ k, k < w.heap.size → Y k) ∧ w.heap.size ≤ base ∧ Below w.heap.size w w' ∧ ∀ k, Y k → k < w'.heap.size := by
  have HH := Lib.hid (head_any api h hM)
  have HT := Lib.hid h
  have HK := Lib.hid hA
  have hN1 : 2 ^ D0 ≤ 1024 := Nat.le_trans (Nat.pow_le_pow_right (by decide) hA.lo) (by decide)
  have hN0 : 0 < 2 ^ D0 := Nat.pos_of_ne_zero (by simp)
  obtain ⟨N, hN⟩ : ∃ N, N = 2 ^ D0 := ⟨_, rfl⟩
  have hshl : ∀ W : World, (Op.shift .shl .i64 1 .i64 M.d).run Tryz.prog W = .ok (.int .i64 (N : Int)) W := fun W => by
    rw [hA.dep]
    refine shlE_run ⟨by omega, by have := hA.lo; omega⟩ ?_ W
    rw [Int.toNat_natCast, hN]
    have : ((2 : Int) ^ D0) = ((2 ^ D0 : Nat) : Int) := by simp
    rw [this]
    unfold wrap64
    omega
  rw [← hN] at hN1 hN0 ⊢
  have HN := Lib.hid hN
  clear h hM hA hN
  go_enter Tryz.func12, Tryz.ntmps12
  go_wp2_with fail
  refine HH.out.mono ?_
  rintro e w1 ⟨A, k, c, rfl, hkc, hk1000, hri, hfresh, hb1⟩
  obtain ⟨w2, hw2⟩ : ∃ w2, w2 = w1.alloc (.cells #[.int .i64 M.d, .int .i64 M.f, .int .i64 M.n, .int .i64 M.c, .slice A k c] 41) := ⟨_, rfl⟩
  have hb12 : Below w1.heap.size w1 w2 := by rw [hw2]; exact (Below.refl _ _).alloc (Nat.le_refl _) _
  have hbox : w2.heap[w1.heap.size]? = some (.cells #[.int .i64 M.d, .int .i64 M.f, .int .i64 M.n, .int .i64 M.c, .slice A k c] 41 (0, 0)) := by rw [hw2]; exact heap_alloc_new _ _
  have hs2 : w2.heap.size = w1.heap.size + 1 := by rw [hw2]; simp
  have hT2 := (HT.out.below api hb1).below api hb12
  have HPG := Lib.hid (ppages_any api hT2.pg)
  have hst := hT2.sto.cell
  have hmk := make_bools N (by omega)
  have HRI := Lib.hid (And.intro hri (And.intro hkc (And.intro hk1000 (And.intro (hri.below hb12) hb1))))
  have HINV := Lib.hid (show AInv w1 (w2.alloc (.cells (madeCells #[.bool false] N) 4)) w1.heap.size w2.heap.size N (.cells #[.int .i64 M.d, .int .i64 M.f, .int .i64 M.n, .int .i64 M.c, .slice A k c] 41 (0, 0)) (allSt cs bd 0).1 (.slice none 0 0) (allSt cs bd 0).2.1 (fun j => j ≤ w2.heap.size) from by
    have hbm : Below w2.heap.size w2 (w2.alloc (.cells (madeCells #[.bool false] N) 4)) := (Below.refl _ _).alloc (Nat.le_refl _) _
    have hrow := World.rowIs_made w2 (.bool false) N 4
    exact ⟨GRow.start _ _ _, fun k hk => hk, fun k hk => by simp; omega, hrow, (hbm.block _ (by omega)).trans hbox, hb12.trans (hbm.mono hb12.size), Nat.le_refl _, by omega⟩)
  obtain ⟨d0, d1, d2, d3, d4, _⟩ := (show DBox w2 w1.heap.size M.d M.f M.n M.c (.slice A k c) from hbox).cells
  have hshl2 := hshl w2
  clear hri hb1 hfresh HH hT2 hbox hb12 hkc hk1000
  rw [hw2] at hst d0 d1 d2 d3 d4 hshl2
  have hmk2 := hmk (w1.alloc (.cells #[.int .i64 M.d, .int .i64 M.f, .int .i64 M.n, .int .i64 M.c, .slice A k c] 41))
  rw [hw2] at HPG
  go_wp2_with fail
  refine HPG.out.mono ?_
  rintro e w3 ⟨rfl, rfl⟩
  go_wp2_with fail
  obtain ⟨mb, hmb⟩ : ∃ mb, mb = w1.heap.size := ⟨_, rfl⟩
  obtain ⟨sb, hsb⟩ : ∃ sb, sb = w1.heap.size + 1 := ⟨_, rfl⟩
  obtain ⟨box, hbx⟩ : ∃ box, box = Obj.cells #[.int .i64 M.d, .int .i64 M.f, .int .i64 M.n, .int .i64 M.c, .slice A k c] 41 (0, 0) := ⟨_, rfl⟩
  rw [hs2, ← hsb, ← hmb, ← hbx] at HINV
  rw [hw2] at HINV
  rw [← hsb, ← hmb]
  have HBX := Lib.hid (And.intro hbx (And.intro hmb hsb))
  clear d0 d1 d2 d3 d4 hst hmk hmk2 hshl hshl2 HPG hw2 hs2 hbx hmb hsb
  go_loopw [6, 7, 34] (fun v lf i wr => ∃ t : Nat, t ≤ N ∧ i = .int .i64 t ∧ ∃ lv : Int, lf = .int .i64 lv ∧ Hid (lv = pagesOf S.n - ((allSt cs bd t).2.2 : Int) ∧ ∃ Y, AInv w1 wr mb sb N box (allSt cs bd t).1 v (allSt cs bd t).2.1 Y)) (fun _ _ i _ => N - (intOf i).toNat)
  case atStart => exact ⟨0, Nat.zero_le _, rfl, _, rfl, Lib.hid ⟨by show _ = _ - ((0 : Nat) : Int); simp, _, HINV.out⟩⟩
  case round =>
    obtain ⟨t, ht, rfl, lv, rfl, HI⟩ := hrel
    obtain ⟨hlv, Y, hinv⟩ := HI.out
    by_cases htN : t < N
    · have htN' : (t : Int) < (N : Int) := by omega
      have c0 := hinv.seen.cell htN
      have ht2 : t < 2 ^ D0 := by rw [← HN.out]; exact htN
      cases hb : (allSt cs bd t).1 t with
      | true =>
        have HE := Lib.hid (show lv = pagesOf S.n - ((allSt cs bd (t + 1)).2.2 : Int) ∧ ∃ Y, AInv w1 wr mb sb N box (allSt cs bd (t + 1)).1 _ (allSt cs bd (t + 1)).2.1 Y from by rw [allSt_seen hb]; exact ⟨hlv, Y, hinv⟩)
        rw [hb] at c0
        clear hlv hinv HI hb
        go_wp2
        go_roundw
        case rel => exact ⟨t + 1, by omega, by go_num, lv, rfl, HE⟩
        case measure => simp [intOf]; omega
      | false =>
        rw [hb] at c0
        have hmono := allSt_mono cs bd (t + 1) (2 ^ D0 - (t + 1))
        rw [show t + 1 + (2 ^ D0 - (t + 1)) = 2 ^ D0 by omega, allSt_new hb] at hmono
        have hused := hmono.1
        have hcnt := hmono.2
        simp only at hused hcnt
        have hwr := hinv.bel
        obtain ⟨d0, d1, d2, d3, d4, _⟩ := (show DBox wr mb M.d M.f M.n M.c (.slice A k c) from by have := hinv.box; rw [HBX.out.1] at this; exact this).cells
        have hdir := HK.out.dir t ht2
        rw [HRI.out.1.len] at hdir
        obtain ⟨l0, t0, hl0, _⟩ := (HK.out.ch t ht2).first
        have hlen0 : 0 < (cs t).length := by rw [hl0]; simp
        have hlvb : ((cs t).length : Int) ≤ lv := by have := HK.out.use_; omega
        have hlv2 : lv ≤ 4294967296 := by have := HK.out.pgm; omega
        have hlv0 : 0 ≤ lv := by omega
        have HCA := Lib.hid (chainAt_any api ((HT.out.below api HRI.out.2.2.2.2).below api (by exact ((Below.refl _ _).trans (hwr.mono (Nat.le_refl _))))) M.d M.f M.n M.c (cap := c) (t : Int) lv (pgs t) (HRI.out.1.below hwr) hwr.size HRI.out.2.1 (by have := HRI.out.2.2.1; unfold maxLen; omega) hdir (HK.out.ch t ht2) hlvb hlv2)
        have hhd := HK.out.hd t ht2 l0 (by rw [hl0]; rfl)
        have hbdl : bd t ≤ 10 := Nat.le_trans (HK.out.bdl t ht2) HK.out.lo
        have hone := HK.out.one t ht2
        have HNEW := Lib.hid (allSt_new hb)
        have HLV := Lib.hid hlv
        have HIN := Lib.hid hinv
        have hcnt2 : (allSt cs bd t).2.1.length + ((cs t).flatMap Leaf.ps).length ≤ 1073741824 := by have := HK.out.few; rw [List.length_append] at hcnt; omega
        generalize (allSt cs bd t).1 = seen at HNEW HIN
        generalize (allSt cs bd t).2.1 = P at HNEW HIN hcnt2
        generalize (allSt cs bd t).2.2 = ud at HNEW HLV
        generalize cs t = ls at *
        clear hlv hinv HI hb hmono hused hcnt hwr hdir
        have hlen1 : ls.length ≤ 4294967296 := by omega
        obtain ⟨stp, hstp⟩ : ∃ stp, stp = 2 ^ bd t := ⟨_, rfl⟩
        have hstp0 : 0 < stp := by rw [hstp]; exact Nat.pos_of_ne_zero (by simp)
        have hstp1 : stp ≤ 1024 := by rw [hstp]; exact Nat.le_trans (Nat.pow_le_pow_right (by decide) hbdl) (by decide)
        have hsh : wrap64 (2 ^ bd t) = (stp : Int) := by
          rw [hstp]
          have : ((2 : Int) ^ (bd t)) = ((2 ^ bd t : Nat) : Int) := by simp
          rw [this]
          have : 2 ^ bd t ≤ 1024 := by rw [← hstp]; exact hstp1
          unfold wrap64
          omega
        rw [← hstp] at HNEW
        have HL0 := Lib.hid (And.intro hl0 (And.intro hhd (And.intro hstp hsh)))
        clear hl0 hhd hstp hsh
        go_wp2_with fail
        refine HCA.out.mono ?_
        rintro e w4 ⟨A4, c4, rfl, hch, hbc⟩
        have hinv4 := HIN.out.below hbc
        obtain ⟨cb, rfl, hcb, hlv⟩ := LeavesAt.of_chain hch hlen0
        have hlv4 : LeavesAt w4 cb Y ls := hlv.next (Nat.le_refl _) rfl (fun A' n' ps' hs => hs.grow (Nat.le_refl _) (fun _ _ _ => rfl) (fun k _ hk hk' => hk (HIN.out.lt k hk')))
        have hcbY : ¬ Y cb := fun hy => by have := HIN.out.lt cb hy; omega
        have HC := Lib.hid (And.intro hinv4 (And.intro hlv4 hcbY))
        clear hinv4 hlv hlv4 hcbY hch hbc HCA hcb d0 d1 d2 d3 d4 c0
        go_wp2_with fail
        go_loopw [6, 58] (fun v i wr => ∃ j : Nat, i = .int .i64 j ∧ j ≤ ls.length ∧ Hid (∃ Y', AInv w1 wr mb sb N box seen v (P ++ (ls.take j).flatMap Leaf.ps) Y' ∧ LeavesAt wr cb Y' ls ∧ ¬ Y' cb)) (fun _ i _ => ls.length - (intOf i).toNat)
        case atStart => exact ⟨0, rfl, Nat.zero_le _, Lib.hid ⟨Y, by rw [List.take_zero, List.flatMap_nil, List.append_nil]; exact HC.out.1, HC.out.2⟩⟩
        case round =>
          obtain ⟨j, rfl, hj, HR⟩ := hrel
          obtain ⟨Y', hinv, hlv, hcbn⟩ := HR.out
          by_cases hjl : j < ls.length
          · obtain ⟨l, hl⟩ : ∃ l, ls[j]? = some l := ⟨_, List.getElem?_eq_getElem hjl⟩
            obtain ⟨A', n', c', e0, e1, e2, e3, hnc, hnm, hst'⟩ := hlv.2 j l hl
            have hb : Below wr.heap.size wr (wr.alloc (.cells #[.int .i64 l.pg, .int .i64 l.d, .int .i64 l.x, .slice A' n' c'] 92)) := (Below.refl _ _).alloc (Nat.le_refl _) _
            have hn : n' ≤ 1073741824 := by rw [← hst'.pin.1]; exact hone l (List.mem_iff_getElem?.2 ⟨j, hl⟩)
            have hP : (P ++ (ls.take j).flatMap Leaf.ps).length ≤ 1073741824 := by
              have h1 : ls.flatMap Leaf.ps = (ls.take j).flatMap Leaf.ps ++ (ls.drop j).flatMap Leaf.ps := by rw [← List.flatMap_append, List.take_append_drop]
              rw [h1, List.length_append] at hcnt2
              rw [List.length_append]
              omega
            obtain ⟨v', W', hrun, hinv', hstk, hkeep, hown, hsz⟩ := (hinv.below hb).add (c := c') (hst'.below hb) hP hn 31
            have hlv' := (hlv.below hb).next hsz (hkeep cb (hlv.below hb).1 (fun e => hcbn ((hinv.below hb).row.own _ e))) hstk
            have hY : ¬ (Y' cb ∨ v'.ownBlock = some cb) := fun h => by
              rcases h with a | a
              · exact hcbn a
              · rcases hown with q | q
                · rw [q] at a; exact hcbn (hinv.row.own cb a)
                · rw [q] at a; injection a with a; have := (hlv.below hb).1; omega
            have HE := Lib.hid (show ∃ Y'', AInv w1 W' mb sb N box seen v' (P ++ (ls.take (j + 1)).flatMap Leaf.ps) Y'' ∧ LeavesAt W' cb Y'' ls ∧ ¬ Y'' cb from ⟨_, by
              have e9 : (ls.take (j + 1)).flatMap Leaf.ps = (ls.take j).flatMap Leaf.ps ++ l.ps := by rw [List.take_add_one, hl, List.flatMap_append]; simp
              rw [e9, ← List.append_assoc]
              exact hinv', hlv', hY⟩)
            obtain ⟨pg, d, xx, ps⟩ := l
            have HRUN := Lib.hid hrun
            have HJ := Lib.hid (show j + 1 ≤ ls.length from hjl)
            clear hinv hlv hcbn HR hl hst' hb hn hP hrun hinv' hstk hkeep hown hsz hlv' hY
            go_wp2_with (at_builtin; refine Lib.wpList_append_run _ rfl _ _ _ _ rfl _ _ rfl rfl _ _ HRUN.out ?_)
            go_roundw
            case rel => exact ⟨j + 1, by go_num, HJ.out, HE⟩
            case measure => simp [intOf]; omega
          · obtain rfl : j = ls.length := by omega
            have HF := Lib.hid (And.intro hinv (And.intro hlv hcbn))
            rw [List.take_length] at HF
            clear hinv hlv hcbn HR
            go_wp2_with fail
            go_loopw [14] (fun o wr => ∃ x : Nat, o = .int .i64 x ∧ x ≤ 2048 ∧ Hid (∃ m, x = t + m * stp ∧ AInv w1 wr mb sb N box (fun i => seen i || (decide (t ≤ i) && decide ((i - t) % stp = 0) && decide (i < x))) u6 (P ++ ls.flatMap Leaf.ps) Y' ∧ LeavesAt wr cb Y' ls)) (fun o _ => N - (intOf o).toNat)
            case atStart => exact ⟨t, rfl, by omega, Lib.hid ⟨0, by simp, HF.out.1.congr (fun i hi => by
              by_cases h1 : t ≤ i
              · have : ¬ i < t := by omega
                simp [this]
              · simp [h1]), HF.out.2.1⟩⟩
            case round =>
              obtain ⟨x, rfl, hx, HR⟩ := hrel
              obtain ⟨m, hxm, hinv, hlv⟩ := HR.out
              by_cases hxN : x < N
              · have c0 := hinv.seen.cell hxN
                have f0 := hinv.seen.frozen x
                obtain ⟨hinv', hk, hsz⟩ := hinv.mark x
                have hlv' := hlv.next hsz (hk cb (fun e => HF.out.2.2 (by rw [e]; exact HF.out.1.low sb (Nat.le_refl _)))) (fun A' n' ps' hs => hs.grow hsz (fun k _ hy => hk k (fun e => hy (by rw [e]; exact hinv.low sb (Nat.le_refl _)))) (fun _ _ h => h))
                obtain ⟨_, _, _, _, e1, _⟩ := hlv'.2 0 l0 (by rw [HL0.out.1]; rfl)
                rw [HL0.out.2.1] at e1
                have e1' : (wr.setCell ⟨sb, x, none⟩ (.bool true)).cell? ⟨cb, 1, none⟩ = some (.int .i64 (bd t : Int)) := e1
                have hsh := HL0.out.2.2.2
                have HE := Lib.hid (show ∃ m', x + stp = t + m' * stp ∧ AInv w1 (wr.setCell ⟨sb, x, none⟩ (.bool true)) mb sb N box (fun i => seen i || (decide (t ≤ i) && decide ((i - t) % stp = 0) && decide (i < x + stp))) u6 (P ++ ls.flatMap Leaf.ps) Y' ∧ LeavesAt (wr.setCell ⟨sb, x, none⟩ (.bool true)) cb Y' ls from ⟨m + 1, by rw [Nat.succ_mul]; omega, hinv'.congr (fun i hi => by
                  rw [Bool.or_assoc, hxm, mark_step hstp0, show t + (m + 1) * stp = t + m * stp + stp by rw [Nat.succ_mul, Nat.add_assoc]]), hlv'⟩)
                clear hinv hlv hinv' hk hsz hlv' e1 HR hxm
                have HW := Lib.hid (wrap_step (Nat.le_trans (Nat.le_of_lt hxN) hN1) hstp1)
                have HX := Lib.hid (le_step hxN hN1 hstp1)
                have HM := Lib.hid (meas_step hxN hstp0)
                go_wp2
                clear hsh
                go_roundw
                case rel => exact ⟨x + stp, by rw [HW.out], HX.out, HE⟩
                case measure => rw [HW.out]; exact HM.out
              · have HE := Lib.hid (show lv - (ls.length : Int) = pagesOf S.n - ((allSt cs bd (t + 1)).2.2 : Int) ∧ ∃ Y, AInv w1 wr mb sb N box (allSt cs bd (t + 1)).1 u6 (allSt cs bd (t + 1)).2.1 Y from by
                  rw [HNEW.out]
                  refine ⟨by have := HLV.out; show _ = _ - ((ud + ls.length : Nat) : Int); omega, Y', hinv.congr (fun i hi => ?_)⟩
                  have : i < x := by omega
                  simp [markB, this])
                clear hinv hlv HR hxm
                go_wp2
                go_roundw
                case rel => exact ⟨t + 1, by omega, by go_num, lv - (ls.length : Int), by go_num, HE⟩
                case measure => simp [intOf]; omega
    · obtain rfl : t = N := by omega
      have HSO := Lib.hid (sortE_any hinv.row (by have := HK.out.few; rw [← HN.out] at this; omega) (by have := HK.out.dis; rwa [← HN.out] at this))
      have HIN := Lib.hid hinv
      clear hlv hinv HI
      go_wp2_with fail
      refine HSO.out.mono ?_
      rintro e w4 ⟨rfl, ps', hp, hup, hrow, htc⟩
      have hsz1 := HRI.out.2.2.2.2.size
      have HE := Lib.hid (And.intro hp (And.intro hup (And.intro hrow (show (∀ k, k < w.heap.size → Y k) ∧ w.heap.size ≤ sb + 1 ∧ Below w.heap.size w w4 ∧ ∀ k, Y k → k < w4.heap.size from by
        have hb01 := HRI.out.2.2.2.2
        have hbw := hb01.trans (HIN.out.bel.mono hsz1)
        have h1 := HBX.out.2.2
        refine ⟨fun k hk => HIN.out.low k (by omega), by omega, ?_, fun k hk => Nat.lt_of_lt_of_le (HIN.out.lt k hk) htc.size⟩
        exact hbw.trans (Touch.below (B := w.heap.size) htc (fun k hk => by have := (HIN.out.row.at_ k hk).1; omega) hbw.size)))))
      clear hp hup hrow htc HSO
      go_wp2
      go_ret2
      obtain ⟨e1, e2, e3, e4, e5, e6, e7⟩ := HE.out
      exact ⟨_, ps', Y, sb + 1, rfl, e1, e2, e3, e4, e5, e6, e7⟩
end
end Go.Proofs.YtinhdimalhfgkaaGreatDoor

/-
  Plain: a disk that was settled, and what a commit and an opening make of its pages; what the check of layer 13's laws shows of its store. Condition: there are 200 to 3000 pages.
-/
namespace Go.Proofs.YtinhdimalhfgkaaGreatDoor
open Go.RowKit
set_option maxRecDepth 100000
set_option linter.unusedVariables false

section
variable {S : DS} {f : Nat → List Int} {seq : Int} {L : List (Int × List Int)}
/-- A disk that takes whatever is written, settled, all pages of their length. -/
structure Kp (S : DS) (f : Nat → List Int) (seq : Int) : Prop where
  free : Free S
  set_ : Set_ S f seq
  n3 : 3 ≤ S.n
  n6 : S.n ≤ 65536
  len : LenS S
  s0 : 0 ≤ seq
  s1 : seq < 1000000
theorem Kp.load (h : Kp S f seq) {i : Int} (hi : 0 ≤ i ∧ i < pagesOf S.n) : loadS S i = (pageIn S.n f i, 0) := load_rests rfl h.set_.rests hi
theorem loadS_out {S : DS} {i : Int} (hr : i < 0 ∨ i ≥ S.P) : loadS S i = ([], 1) := by unfold loadS; rw [if_pos hr]
theorem Kp.commit (h : Kp S f seq) (up : Rising L) (all : AllSet S L) (hne : L ≠ []) (hs : seq < 999999) :
    (commitS S seq L).1 = 0 ∧ (commitS S seq L).2.1 = seq + 1 ∧ (commitS S seq L).2.2.n = S.n ∧ (commitS S seq L).2.2.writes = S.writes + (2 * L.length + 1) ∧ (∃ g, Kp (commitS S seq L).2.2 g (seq + 1)) ∧ ∀ i, 0 ≤ i → i < pagesOf S.n → getPg (commitS S seq L).2.2 [] i = getPg S L i := by
  have hs0 := h.s0
  have hn3 := h.n3
  have hI : Imgs S.n seq L := imgs_of up all ⟨h.s0, by omega⟩
  obtain ⟨h1, h2, h3, h4, h5, h6⟩ := free_commit rfl (by omega) hI hne h.free h.set_.rests
  have hnn := (pagesOf_nn (S.n : Int)).1
  obtain ⟨m1, m2, m3⟩ := view_marked (f := f) hI
  obtain ⟨p1, p2⟩ := pages_marked (f := f) hI
  have hall : ∀ i, 0 ≤ i → i < pagesOf S.n → getPg (commitS S seq L).2.2 [] i = getPg S L i := fun i i0 i1 => by
    show loadS _ i = _
    rw [load_rests (n := S.n) (by rw [h4]) h6 ⟨i0, i1⟩]
    unfold getPg
    cases ha : atL L i with
    | some l => rw [p1 (i, l) (atL_mem ha)]
    | none =>
      rw [p2 i i0 i1 (fun x hx e => by
        have := up.at_ (i := x.1) (l := x.2) hx
        rw [e, ha] at this
        cases this)]
      exact (h.load ⟨i0, i1⟩).symm
  refine ⟨h1, h2, h4, h5, ⟨_, h3, ⟨h6, ?_, ?_, ?_⟩, by rw [h4]; exact hn3, by rw [h4]; exact h.n6, fun i hi => ?_, by omega, by omega⟩, hall⟩
  · rw [h4, ← opened_some m2]
    exact opened_twice hnn _
  · rw [putH_far _ _ (fun x hx e => by have := (hI.mem hx).1.1; omega), m1]
  · rw [putH_far _ _ (fun x hx e => by have := (hI.mem hx).1.1; omega), m1]
  · have hP : (commitS S seq L).2.2.P = pagesOf S.n := by unfold DS.P; rw [h4]
    by_cases hr : i < 0 ∨ i ≥ (commitS S seq L).2.2.P
    · exfalso
      rw [loadS_out hr] at hi
      exact absurd hi (by decide)
    · have e := hall i (by omega) (by omega)
      have e' : loadS (commitS S seq L).2.2 i = getPg S L i := e
      rw [e'] at hi ⊢
      exact h.len.get all i hi
theorem Kp.open_ (h : Kp S f seq) : (openS S).1 = 0 ∧ (openS S).2.1 = seq ∧ (openS S).2.2.n = S.n ∧ Kp (openS S).2.2 f seq ∧ ∀ i, loadS (openS S).2.2 i = loadS S i := by
  have hn3 := h.n3
  obtain ⟨h1, h2, h3, h4, h5⟩ := open_free (n := S.n) rfl (by omega) h.free h.set_.rests h.set_.err
  rw [h.set_.opn] at h3
  rw [h.set_.num] at h2
  have hP : (openS S).2.2.P = S.P := by unfold DS.P; rw [h5]
  have hld : ∀ i, loadS (openS S).2.2 i = loadS S i := fun i => by
    by_cases hr : i < 0 ∨ i ≥ S.P
    · rw [loadS_out hr, loadS_out (by rw [hP]; exact hr)]
    · have hi : 0 ≤ i ∧ i < pagesOf S.n := by unfold DS.P at hr; omega
      rw [h.load hi, load_rests (n := S.n) (by rw [h5]) h3 hi]
  exact ⟨h1, h2, h5, ⟨h4, ⟨h3, by rw [h5]; exact h.set_.opn, h.set_.err, h.set_.num⟩, by rw [h5]; exact hn3, by rw [h5]; exact h.n6, fun i hi => by rw [hld] at hi ⊢; exact h.len i hi, h.s0, h.s1⟩, hld⟩
theorem Kp.first {n : Nat} (hn : 3 ≤ n ∧ n ≤ 65536) : Kp (S12 n) fresh1 1 ∧ (S12 n).n = n ∧ (S12 n).writes = 1 := by
  obtain ⟨r1, r2, r3, r4, r5, r6, r7⟩ := fresh_log (m := n) hn
  exact ⟨⟨r4, ⟨r7, (fresh1_opened _).2, by rw [fresh1_mark], by rw [fresh1_mark]⟩, by show 3 ≤ (openS _).2.2.n; rw [r5]; exact hn.1, by show (openS _).2.2.n ≤ 65536; rw [r5]; exact hn.2, S12_len hn, by decide, by decide⟩, r5, r6⟩
theorem open_blank (n : Nat) : openS (DS.new n) = (4, 0, DS.new n) := by
  have e : (unpackR ((DS.new n).last 0)).2.2.2 = 4 := by
    show (unpackR nought).2.2.2 = 4
    unfold unpackR
    rw [if_neg nought_not12]
  unfold openS
  rw [if_neg (by show ¬ false = true; decide), if_pos (by rw [e]; decide)]

/-- What a store with one bucket shows. -/
def Shows (S : DS) (L : List (Int × List Int)) (c : Int) (ps : List KV) : Prop := getPg S L 0 = (metaL (awM c), 0) ∧ getPg S L 1 = (awD, 0) ∧ getPg S L 2 = (awB ps, 0)
variable {c : Int} {ps ps' : List KV}
theorem sgetL {o i : Int} {x : List Int} : getPg S (setL L o x) i = if i = o then (x, 0) else getPg S L i := by
  unfold getPg
  rw [atL_setL]
  by_cases e : i = o
  · rw [if_pos e, if_pos e]
  · rw [if_neg e, if_neg e]
theorem setL_some (L : List (Int × List Int)) (i : Int) (x : List Int) : setL L i x ≠ [] := by
  cases L with
  | nil => exact List.cons_ne_nil _ _
  | cons y r =>
    unfold setL
    split
    · exact List.cons_ne_nil _ _
    · split <;> exact List.cons_ne_nil _ _
theorem Shows.first : Shows S (awL 0 []) 0 [] := ⟨rfl, rfl, rfl⟩
theorem Shows.head (h : Shows S L c ps) (hc : c = 0 ∨ c = 1 ∨ c = 2) : HeadIs S L (awM c) := by
  refine ⟨by rw [h.1], ?_, by show 1 ≤ 1000; decide⟩
  rw [h.1]
  show parseM (metaL (awM c)) = (awM c, 0)
  rcases hc with rfl | rfl | rfl <;> kernel_rfl
theorem Shows.dir (h : Shows S L c ps) : dirGetR S L 0 1 [1] 0 = (2, 0) := by
  rw [dirGet_ok (by decide) (by rw [show ownD [1] 0 = 1 from by decide, h.2.1])]
  rw [show ownD [1] 0 = 1 from by decide, h.2.1]
  kernel_rfl
theorem Shows.chainOk (h : Shows S L c ps) (hb : parseBk (awB ps) = (⟨0, 0, ps⟩, 0)) : ChainOk S L 0 2 [⟨2, 0, 0, ps⟩] := by
  refine ⟨⟨_, [], rfl, rfl⟩, fun i l hi => ?_, fun i l l' hi hi' => ?_, fun i l hi hi' => ?_⟩
  · obtain rfl : i = 0 := by
      have := (List.getElem?_eq_some_iff.1 hi).1
      simpa using this
    obtain rfl : (⟨2, 0, 0, ps⟩ : Leaf) = l := by simpa using hi
    exact ⟨⟨by show (getPg S L 2).2 = 0; rw [h.2.2], by show parseBk (getPg S L 2).1 = _; rw [h.2.2]; exact hb, by show (-9223372036854775808 : Int) ≤ 2; decide, by show (2 : Int) ≤ 9223372036854775807; decide⟩, by show (0 : Int) ≤ 0; decide⟩
  · have := (List.getElem?_eq_some_iff.1 hi').1
    simp at this
  · obtain rfl : i = 0 := by
      have := (List.getElem?_eq_some_iff.1 hi).1
      simpa using this
    obtain rfl : (⟨2, 0, 0, ps⟩ : Leaf) = l := by simpa using hi
    rfl
theorem Shows.chain (h : Shows S L c ps) (hn : 200 ≤ pagesOf S.n ∧ pagesOf S.n ≤ 3000) (hb : parseBk (awB ps) = (⟨0, 0, ps⟩, 0)) (key : List Int) : ChainIs S L (awM c) key 2 [⟨2, 0, 0, ps⟩] := by
  have hs : ((slotN (hashL key) (heldD (awM c).d) : Nat) : Int) = 0 := by
    show ((slotN (hashL key) (heldD 0) : Nat) : Int) = 0
    rw [show heldD 0 = 0 from by decide]
    unfold slotN
    omega
  refine ⟨?_, h.chainOk hb, Int.le_trans (show ((1 : Nat) : Int) ≤ 200 by decide) hn.1, Int.le_trans hn.2 (by decide)⟩
  rw [hs]
  exact h.dir
theorem Shows.put (h : Shows S L c ps) (hP : 200 ≤ S.P ∧ S.P ≤ 3000) (hl : (awB ps').length = 240) (hm : (metaL (awM (c + 1))).length = 240) :
    okS S (awM (c + 1)) L [.lay 2 (awB ps'), .lay 0 (metaL (awM (c + 1)))] ∧ Shows S (runS S (awM (c + 1)) L [.lay 2 (awB ps'), .lay 0 (metaL (awM (c + 1)))]) (c + 1) ps' ∧ runS S (awM (c + 1)) L [.lay 2 (awB ps'), .lay 0 (metaL (awM (c + 1)))] ≠ [] := by
  have s3 := step_lay (S := S) (M := awM (c + 1)) (L := L) (pg := 2) (l := awB ps') (by omega) hl
  have s4 := step_lay (S := S) (M := awM (c + 1)) (L := setL L 2 (awB ps')) (pg := 0) (l := metaL (awM (c + 1))) (by omega) hm
  refine ⟨okS_cons (by rw [s3]) (by rw [s3]; exact okS_cons (by rw [s4]) (okS_nil _ _ _)), ?_⟩
  rw [runS_cons, s3, runS_cons, s4, runS_nil]
  refine ⟨⟨?_, ?_, ?_⟩, setL_some _ _ _⟩
  · rw [sgetL, if_pos rfl]
  · rw [sgetL, if_neg (by decide), sgetL, if_neg (by decide)]; exact h.2.1
  · rw [sgetL, if_neg (by decide), sgetL, if_pos rfl]
theorem Shows.of_eq {S' : DS} {L' : List (Int × List Int)} (h : Shows S L c ps) (e : ∀ i, 0 ≤ i → i < 3 → getPg S' L' i = getPg S L i) : Shows S' L' c ps :=
  ⟨(e 0 (by decide) (by decide)).trans h.1, (e 1 (by decide) (by decide)).trans h.2.1, (e 2 (by decide) (by decide)).trans h.2.2⟩
theorem Shows.all (h : Shows S L c ps) (hn : 200 ≤ pagesOf S.n ∧ pagesOf S.n ≤ 3000) (hb : parseBk (awB ps) = (⟨0, 0, ps⟩, 0)) (hl : ps.length ≤ 1000) (hd : (ps.map fun x => tx x.1).Nodup) : AllOk S L (awM c) 0 (fun _ => 2) (fun _ => [⟨2, 0, 0, ps⟩]) (fun _ => 0) := by
  have e1 : allSt (fun _ => [⟨2, 0, 0, ps⟩]) (fun _ => 0) (2 ^ 0) = (markB (fun _ => false) 0 1, ps, 1) := by
    show allSt _ _ (0 + 1) = _
    rw [allSt_new rfl]
    simp [allSt]
  refine ⟨rfl, by decide, fun s hs => ?_, fun s hs => h.chainOk hb, fun s hs l hl => ?_, fun s hs => Nat.le_refl _, ?_, Int.le_trans hn.2 (by decide), ?_, fun s hs l hl => ?_, ?_⟩
  · obtain rfl : s = 0 := by simpa using hs
    exact h.dir
  · obtain rfl : (⟨2, 0, 0, ps⟩ : Leaf) = l := by simpa using hl
    rfl
  · rw [e1]
    exact Int.le_trans (show ((1 : Nat) : Int) ≤ 200 by decide) hn.1
  · rw [e1]
    show ps.length ≤ _
    omega
  · obtain rfl : l = ⟨2, 0, 0, ps⟩ := by simpa using hl
    show ps.length ≤ _
    omega
  · rw [e1]
    exact hd
end
end Go.Proofs.YtinhdimalhfgkaaGreatDoor

/-
  The check of layer 12's laws: it returns true. Condition: the table that crc.Step reads holds what the program's text lays in it.
-/
namespace Go.Proofs.YtinhdimalhfgkaaGreatDoor
open Go.RowKit
set_option maxRecDepth 100000
set_option linter.unusedVariables false

theorem RB.touched {w w' : World} {O : Nat → Prop} {A : Option Addr} {n : Nat} {l : List Int} (h : RB w w.heap.size A n l) (t : Touch O w w') (ho : ∀ a, A = some a → 0 < n → ¬ O a.block) : RB w' w'.heap.size A n l := ⟨h.1, h.2.1, fun hn => by
  obtain ⟨b, off, e, hb, hc⟩ := h.2.2 hn
  exact ⟨b, off, e, Nat.lt_of_lt_of_le hb t.size, fun j hj => (World.cell?_of_block (a := ⟨b, off + j, none⟩) (t.block b hb (ho _ e hn))).trans (hc j hj)⟩⟩
/-- A literal of one byte, as the program makes it. -/
def litX (x : Int) : Obj := .cells #[.int .u8 x] 5 (1, 2)
theorem litX_any (w : World) (x : Int) (hx : 0 ≤ x ∧ x < 256) : RB (w.alloc (litX x)) (w.heap.size + 1) (some ⟨w.heap.size, 0, none⟩) 1 [x] := RB.mark w 5 [x] #[.int .u8 x] (1, 2) rfl (fun y hy => by obtain rfl := List.mem_singleton.1 hy; exact hx)
theorem litX_below (w : World) (x : Int) : Below w.heap.size w (w.alloc (litX x)) := (Below.refl _ _).alloc (Nat.le_refl _) _

section
variable {D : World → (Nat → Prop) → Addr → DS → Prop} {w0 w w' : World} {F : Nat → Prop} {p : Addr} {S : DS} {q r b st : Nat} {seq : Int}
set_option maxHeartbeats 800000 in
theorem awOne (api : DiskApi D) (hP : 200 ≤ S.P ∧ S.P ≤ 3000) (hn : 200 ≤ pagesOf S.n ∧ pagesOf S.n ≤ 3000) (h : AwT D w0 w F p S q seq r b st (awL 0 [])) {ka va : Option Addr} {B B' : Nat} (hk : RB w B ka 1 [97]) (hB : B ≤ w.heap.size) (hv : RB w B' va 1 [120]) (hB' : B' ≤ w.heap.size) :
    Calls Tryz.prog 20 #[.pointer (some ⟨st, 0, none⟩), .slice ka 1 1, .slice va 1 1] w fun e w' => e = .returned (.int .i64 0) ∧ AwT D w0 w' F p S q seq r b st (awL 1 [kA]) := by
  obtain ⟨O, t1, t2, t3⟩ := h
  have h1 : (0 : Int) + 1 = 1 := rfl
  have h2 : ([] : List KV) ++ [kA] = [kA] := rfl
  have H := awPut_any (c := 0) (ps := []) (x := kA) (kc := 1) (vc := 1) api hP hn t1 (.inl rfl) parse0 hk hB hv hB' (by decide) (by decide) (by decide) (by decide) (by decide) (by decide) (by decide) (by decide +kernel) (by decide)
  rw [h1, h2] at H
  exact H.mono fun e w' z => ⟨z.1, (AwT.aft t2 t3 z.2).1⟩
set_option maxHeartbeats 800000 in
theorem awTwo (api : DiskApi D) (hP : 200 ≤ S.P ∧ S.P ≤ 3000) (hn : 200 ≤ pagesOf S.n ∧ pagesOf S.n ≤ 3000) (h : AwT D w0 w F p S q seq r b st (awL 1 [kA])) {ka : Option Addr} {B : Nat} (hk : RB w B ka 1 [98]) (hB : B ≤ w.heap.size) :
    Calls Tryz.prog 20 #[.pointer (some ⟨st, 0, none⟩), .slice ka 1 1, .slice none 0 0] w fun e w' => e = .returned (.int .i64 0) ∧ AwT D w0 w' F p S q seq r b st (awL 2 [kA, kB]) := by
  obtain ⟨O, t1, t2, t3⟩ := h
  have h1 : (1 : Int) + 1 = 2 := rfl
  have h2 : [kA] ++ [kB] = [kA, kB] := rfl
  have H := awPut_any (c := 1) (ps := [kA]) (x := kB) (kc := 1) (vc := 0) api hP hn t1 (.inr rfl) parse1 hk hB (RB.nil_ (w := w) (B := 0) (A := none)) (Nat.zero_le _) (by decide) (by decide) (by decide) (by decide) (by decide) (by decide) (by decide) (by decide +kernel) (by decide)
  rw [h1, h2] at H
  exact H.mono fun e w' z => ⟨z.1, (AwT.aft t2 t3 z.2).1⟩
set_option maxHeartbeats 800000 in
theorem awGone (api : DiskApi D) (hP : 200 ≤ S.P ∧ S.P ≤ 3000) (hn : 200 ≤ pagesOf S.n ∧ pagesOf S.n ≤ 3000) {O : Nat → Prop} (t1 : Top D w F O p S q seq r b st (awL 2 [kA, kB])) (t2 : Below w0.heap.size w0 w) (t3 : ∀ k, O k → w0.heap.size ≤ k) {ka A : Option Addr} {B : Nat} (hk : RB w B ka 1 [98]) (hB : B ≤ w.heap.size) (hr : RB w w.heap.size A 1 [120]) (ho : ∀ a, A = some a → 0 < 1 → ¬ O a.block) :
    Calls Tryz.prog 18 #[.pointer (some ⟨st, 0, none⟩), .slice ka 1 1] w fun e w' => e = .returned (.tuple #[.bool true, .int .i64 0]) ∧ AwT D w0 w' F p S q seq r b st (awL 1 [kA]) ∧ RB w' w'.heap.size A 1 [120] := by
  have h1 : (1 : Int) + 1 = 2 := rfl
  have h2 : [kA, kB].eraseIdx 1 = [kA] := rfl
  rw [← h1] at t1
  have H := awDel_any (c := 1) (ps := [kA, kB]) (i := 1) (kc := 1) api hP hn t1 (.inr rfl) parse2 hk hB (by decide) (by decide) (by decide) (by decide) (by decide +kernel) (by decide)
  rw [h2] at H
  exact H.mono fun e w' z => ⟨z.1, (AwT.aft t2 t3 z.2).1, RB.touched hr (AwT.aft t2 t3 z.2).2 ho⟩
set_option maxHeartbeats 800000 in
theorem awGot (api : DiskApi D) (hn : 200 ≤ pagesOf S.n ∧ pagesOf S.n ≤ 3000) {O : Nat → Prop} (t1 : Top D w F O p S q seq r b st (awL 2 [kA, kB])) {ka : Option Addr} {B : Nat} (hk : RB w B ka 1 [97]) (hB : B ≤ w.heap.size) :
    Calls Tryz.prog 17 #[.pointer (some ⟨st, 0, none⟩), .slice ka 1 1] w fun e w' => ∃ A c, e = .returned (.tuple #[.slice A 1 c, .bool true, .int .i64 0]) ∧ RB w' w'.heap.size A 1 [120] ∧ (∀ a, A = some a → 0 < 1 → w.heap.size ≤ a.block) ∧ Below w.heap.size w w' := by
  have hC := awChain hn 2 parse2 [97]
  refine (extGet_any (Kc := 1) api t1.at_ (awHead 2 (.inr (.inr rfl)) [kA, kB]) 2 hk hB (by decide) hC.dir hC.ok hC.few hC.all).mono fun e w' hgot => ?_
  rcases hgot with ⟨hno, _, _⟩ | ⟨m, i, l, x, A, n, c, hl, hx, hf, rfl, _, _, hr, hnew, hb5⟩
  · exact absurd (hno 0 _ rfl) (by decide)
  · have hm0 : m = 0 := by
      have := (List.getElem?_eq_some_iff.1 hl).1
      simpa using this
    subst hm0
    obtain rfl : (⟨2, 0, 0, [kA, kB]⟩ : Leaf) = l := by simpa using hl
    have hi0 : i = 0 := by
      have e0 : findI [kA, kB] [97] = 0 := by decide
      have hf : findI [kA, kB] [97] = (i : Int) := hf
      omega
    subst hi0
    obtain rfl : kA = x := by simpa using hx
    obtain rfl : n = 1 := hr.len.symm
    exact ⟨A, c, rfl, hr, hnew, hb5⟩
set_option maxHeartbeats 800000 in
theorem awMade (api : DiskApi D) (hP : 200 ≤ S.P ∧ S.P ≤ 3000) (hn : 200 ≤ pagesOf S.n ∧ pagesOf S.n ≤ 3000) (hlen : LenS S) {O : Nat → Prop} (hpg : PgAt D w F O p S q seq r b []) (htab : TabF w F) (hout : ¬ O 1) (hb1 : Below w0.heap.size w0 w) (hO : ∀ k, O k → w0.heap.size ≤ k) :
    Calls Tryz.prog 36 #[.pointer (some ⟨r, 0, none⟩)] w fun e w' => ∃ st, e = .returned (.tuple #[.pointer (some ⟨st, 0, none⟩), .int .i64 0]) ∧ AwT D w0 w' F p S q seq r b st (awL 0 []) := by
  have ok := (awFormat hP).1
  rw [← awFin] at ok
  refine (extFormat_any api hpg htab hlen hout (awLen hn) (by decide) (by decide) (by decide) (awTake hn) (by decide) (by decide) (awM_ints (.inl rfl)) (awM_may (.inl rfl)) ok).mono fun e w' z => ?_
  obtain ⟨st, e1, _, z2⟩ := z
  rw [awFin, (awFormat hP).2] at z2
  exact ⟨st, e1, (AwT.aft hb1 hO z2).1⟩
end
end Go.Proofs.YtinhdimalhfgkaaGreatDoor

/-
  A store that is there is opened: contract of Open. Condition: page 0 is a Meta.
-/
namespace Go.Proofs.YtinhdimalhfgkaaGreatDoor
open Go.RowKit
set_option maxRecDepth 100000
set_option linter.unusedVariables false

section
variable {D : World → (Nat → Prop) → Addr → DS → Prop} {w w' : World} {F O : Nat → Prop} {p : Addr} {S : DS} {q r b : Nat} {seq : Int} {L : List (Int × List Int)}
set_option maxHeartbeats 800000 in
theorem extOpen_any (api : DiskApi D) (hP : PgAt D w F O p S q seq r b L) (htab : TabF w F) (hlen : LenS S) (hout : ¬ O 1) {M : MV} (hM : HeadIs S L M) :
    Calls Tryz.prog 19 #[.pointer (some ⟨r, 0, none⟩)] w fun e w' => ∃ st, e = .returned (.tuple #[.pointer (some ⟨st, 0, none⟩), .int .i64 0]) ∧ w.heap.size ≤ st ∧ Top D w' F O p S q seq r b st L ∧ Below w.heap.size w w' := by
  obtain ⟨w1, hw1⟩ : ∃ w1, w1 = w.alloc (.cells #[.pointer (some ⟨r, 0, none⟩)] 48) := ⟨_, rfl⟩
  have hb1 : Below w.heap.size w w1 := by rw [hw1]; exact (Below.refl _ _).alloc (Nat.le_refl _) _
  have hst1 : StAt w1 w.heap.size r := by rw [hw1]; exact heap_alloc_new _ _
  have hT1 : Top D w1 F O p S q seq r b w.heap.size L := ⟨⟨hP.below api hb1, htab.below hb1, hlen.get hP.all, hst1, fun e => Nat.lt_irrefl _ (hP.lt _ e)⟩, hlen, hout⟩
  have HHD := Lib.hid (head_any api hT1.at_ hM)
  have HT := Lib.hid hT1
  have HB1 := Lib.hid hb1
  clear hP htab hlen hout hM hb1 hst1 hT1
  go_enter Tryz.func19, Tryz.ntmps19
  go_wp2_with fail
  rw [← hw1]
  clear hw1
  refine HHD.out.mono ?_
  rintro e w2 ⟨A, k, c, rfl, _, _, _, _, hb2⟩
  have HE := Lib.hid (And.intro (HT.out.below api hb2) (HB1.out.trans (hb2.mono HB1.out.size)))
  clear hb2 HHD
  go_wp2_with fail
  go_ret2
  exact ⟨_, rfl, Nat.le_refl _, HE.out.1.below api ((Below.refl _ _).alloc (Nat.le_refl _) _), HE.out.2.alloc HE.out.2.size _⟩
end
end Go.Proofs.YtinhdimalhfgkaaGreatDoor

/-
  A store on a disk is begun: contracts of storeOn, Open, Format. Condition: the table that crc.Step reads holds what the program's text lays in it.
-/
namespace Go.Proofs.YtinhdimalhfgkaaGreatDoor
open Go.RowKit
set_option maxRecDepth 100000
set_option linter.unusedVariables false

/-- A store on a disk: its two cells. -/
def KvAt (w : World) (kb st : Nat) : Prop := w.heap[kb]? = some (.cells #[.pointer (some ⟨st, 0, none⟩), .bool false] 60 (0, 0))
theorem KvAt.cells {w : World} {kb st : Nat} (h : KvAt w kb st) : w.cell? ⟨kb, 0, none⟩ = some (.pointer (some ⟨st, 0, none⟩)) ∧ w.cell? ⟨kb, 1, none⟩ = some (.bool false) ∧ kb < w.heap.size :=
  ⟨by rw [cell_of_row w kb 0 _ _ (0, 0) h]; rfl, by rw [cell_of_row w kb 1 _ _ (0, 0) h]; rfl, (Array.getElem?_eq_some_iff.1 h).1⟩
section
variable {D : World → (Nat → Prop) → Addr → DS → Prop} {w0 w w' : World} {F O : Nat → Prop} {p : Addr} {S : DS} {q r b st kb : Nat} {seq : Int} {L L' : List (Int × List Int)}
/-- A store on a disk whose every block is new. -/
def KvT (D : World → (Nat → Prop) → Addr → DS → Prop) (w0 w : World) (F : Nat → Prop) (p : Addr) (S : DS) (q : Nat) (seq : Int) (r b st kb : Nat) (L : List (Int × List Int)) : Prop :=
  ∃ O, Top D w F O p S q seq r b st L ∧ Below w0.heap.size w0 w ∧ (∀ k, O k → w0.heap.size ≤ k) ∧ KvAt w kb st ∧ ¬ O kb ∧ w0.heap.size ≤ kb
theorem KvT.below (api : DiskApi D) (h : KvT D w0 w F p S q seq r b st kb L) (hb : Below w.heap.size w w') : KvT D w0 w' F p S q seq r b st kb L := by
  obtain ⟨O, h1, h2, h3, h4, h5, h6⟩ := h
  exact ⟨O, h1.below api hb, h2.trans (hb.mono h2.size), h3, (hb.block kb h4.cells.2.2).trans h4, h5, h6⟩
theorem KvT.aft (h2 : Below w0.heap.size w0 w) (h3 : ∀ k, O k → w0.heap.size ≤ k) (h4 : KvAt w kb st) (h5 : ¬ O kb) (h6 : w0.heap.size ≤ kb) (h : TopAft D w F O p S q seq r b st L w') : KvT D w0 w' F p S q seq r b st kb L := by
  obtain ⟨O', a1, a2, a3⟩ := h
  refine ⟨O', a1, h2.trans (Touch.below (B := w0.heap.size) a2 h3 h2.size), fun k hk => ?_, (a2.block kb h4.cells.2.2 h5).trans h4, fun e => ?_, h6⟩
  · rcases a3 k hk with a | a
    · exact h3 k a
    · exact Nat.le_trans h2.size a
  · rcases a3 kb e with a | a
    · exact h5 a
    · have := h4.cells.2.2
      omega
/-- Commit. -/
theorem KvT.commit (api : DiskApi D) {f : Nat → List Int} (h : KvT D w0 w F p S q seq r b st kb L) (hK : Kp S f seq) (hne : L ≠ []) (hs : seq < 999999) (hw : S.writes ≤ 1000000) :
    Calls Tryz.prog 37 #[.pointer (some ⟨r, 0, none⟩)] w fun e w' => e = .returned (.int .i64 0) ∧ ∃ F', KvT D w0 w' F' p (commitS S seq L).2.2 q (seq + 1) r b st kb [] := by
  obtain ⟨O, h1, h2, h3, h4, h5, h6⟩ := h
  have hs0 := hK.s0
  obtain ⟨c1, c2, c3, c4, ⟨g, cK⟩, c5⟩ := hK.commit h1.at_.pg.up h1.at_.pg.all hne hs
  refine (pcommit_any api h1.at_.pg h1.at_.tab ⟨hs0, by omega⟩ (by omega)).mono ?_
  rintro e w' ⟨rfl, F', O', d1, d2, d3, d4⟩
  have hleft : leftPg S seq L = [] := by unfold leftPg; rw [if_pos c1]
  rw [c2, hleft] at d1
  have hnO : ∀ k, k < w.heap.size → ¬ O k → ¬ O' k := fun k hk ho e => by
    rcases d4 k e with a | a
    · exact ho a
    · omega
  have ht0 := Did.tab h1.out h1.at_.tab d2
  have htab : TabF w' F' := ⟨ht0.tab, ht0.lt, fun e => by
    rcases d3 _ e with a | a
    · exact ht0.out a
    · have := h1.at_.tab.lt
      omega⟩
  refine ⟨by rw [c1], F', O', ⟨⟨d1, htab, cK.len.get d1.all, (d2.block st h1.at_.lt h1.at_.out).trans h1.at_.sto, hnO st h1.at_.lt h1.at_.out⟩, cK.len, hnO _ h1.at_.tab.lt h1.out⟩, h2.trans (Touch.below (B := w0.heap.size) d2 h3 h2.size), fun k hk => ?_, (d2.block kb h4.cells.2.2 h5).trans h4, hnO kb h4.cells.2.2 h5, h6⟩
  rcases d4 k hk with a | a
  · exact h3 k a
  · exact Nat.le_trans h2.size a

set_option maxHeartbeats 1600000 in
theorem storeOn_blank (api : DiskApi D) {n : Nat} (h : LawD D w0 w F p (DS.new n)) (v : Value) : Calls Tryz.prog 72 #[.pointer (some p), v] w fun e w' => e = .returned (.tuple #[.pointer none, .int .i64 4]) ∧ Below w0.heap.size w0 w' := by
  have hO := law_open api h (Nat.zero_le _)
  rw [open_blank] at hO
  have HO := Lib.hid hO
  clear hO h
  go_enter Tryz.func72, Tryz.ntmps72
  go_wp2_with fail
  refine HO.out.mono ?_
  rintro e w1 (⟨_, rfl, F', d, _⟩ | ⟨h1, _⟩)
  · have HB := Lib.hid d.bel
    clear d HO
    go_wp2
    go_ret2
    exact ⟨rfl, HB.out⟩
  · exact absurd h1 (by decide)
set_option maxHeartbeats 1600000 in
theorem kvOpen_blank (api : DiskApi D) {n : Nat} (h : LawD D w0 w F p (DS.new n)) : Calls Tryz.prog 25 #[.pointer (some p)] w fun e w' => e = .returned (.tuple #[.pointer none, .int .i64 4]) ∧ Below w0.heap.size w0 w' := by
  have HO := Lib.hid (fun v => storeOn_blank api h v)
  clear h
  go_enter Tryz.func25, Tryz.ntmps25
  go_wp2_with fail
  refine (HO.out _).mono ?_
  rintro e w1 ⟨rfl, hb⟩
  have HB := Lib.hid hb
  clear HO hb
  go_wp2
  go_ret2
  exact ⟨rfl, HB.out⟩
set_option maxHeartbeats 3200000 in
/-- storeOn with ext.Open: the disk rests on an image, its pages are a store's. -/
theorem storeOn_open (api : DiskApi D) {f : Nat → List Int} (h : LawD D w0 w F p S) (hw : S.writes ≤ 1000000) (hK : Kp S f seq) {M : MV} (hM : HeadIs S [] M) :
    Calls Tryz.prog 72 #[.pointer (some p), .func (.func 19) #[] #[]] w fun e w' => ∃ kb st r b q F', e = .returned (.tuple #[.pointer (some ⟨kb, 0, none⟩), .int .i64 0]) ∧ KvT D w0 w' F' p (openS S).2.2 q seq r b st kb [] := by
  obtain ⟨o1, o2, o3, oK, oL⟩ := hK.open_
  have HO := Lib.hid (law_open_ok api h (by omega) o1)
  rw [o2] at HO
  have hM2 : HeadIs (openS S).2.2 [] M := ⟨by show (loadS _ 0).2 = 0; rw [oL]; exact hM.1, by show parseM (loadS _ 0).1 = _; rw [oL]; exact hM.2.1, hM.2.2⟩
  have hpg : 0 < pagesOf ((openS S).2.2.n : Int) := by
    have := oK.n3
    have := oK.n6
    unfold pagesOf
    split <;> omega
  have HK := Lib.hid (And.intro oK (And.intro hM2 (And.intro hpg h.tab)))
  clear h hw hK hM hM2 hpg o1 o2 o3 oK oL
  generalize (openS S).2.2 = S2 at *
  go_enter Tryz.func72, Tryz.ntmps72
  go_wp2_with fail
  refine HO.out.mono ?_
  rintro e w1 ⟨q, F', rfl, hq, L3, _⟩
  have HNP := Lib.hid (pnew_any api L3.d L3.log L3.qF HK.out.2.2.1)
  have HL3 := Lib.hid L3
  clear L3 HO hq
  go_wp2_with fail
  refine HNP.out.mono ?_
  rintro e w2 ⟨r, b, rfl, hr2, hb2, P2, hbel2⟩
  have hbs := HL3.out.bel.size
  have hO : ∀ k, pgO F' q r b k → w0.heap.size ≤ k := fun k hk => by
    rcases hk with a | a | a | a
    · exact HL3.out.out k a
    · have := HL3.out.q0; omega
    · omega
    · omega
  have htab : TabF w2 F' := HL3.out.toLawD.tabF.below hbel2
  have HOP := Lib.hid (extOpen_any api P2 htab HK.out.1.len (fun hf => by have := hO _ hf; have := HK.out.2.2.2.2; omega) HK.out.2.1)
  have HB2 := Lib.hid (And.intro (HL3.out.bel.trans (hbel2.mono hbs)) hO)
  clear P2 hbel2 hbs hO htab HNP hr2 hb2
  go_wp2_with fail
  refine HOP.out.mono ?_
  rintro e w3 ⟨st, rfl, hst, T3, hb3⟩
  have hbx : Below w3.heap.size w3 (w3.alloc (.cells #[.pointer (some ⟨st, 0, none⟩), .bool false] 60)) := (Below.refl _ _).alloc (Nat.le_refl _) _
  have HE := Lib.hid (show KvT D w0 (w3.alloc (.cells #[.pointer (some ⟨st, 0, none⟩), .bool false] 60)) F' p S2 q seq r b st w3.heap.size [] from by
    have hb := HB2.out.1.trans (hb3.mono HB2.out.1.size)
    exact ⟨pgO F' q r b, T3.below api hbx, hb.trans (hbx.mono hb.size), HB2.out.2, heap_alloc_new _ _, fun e => by have := T3.at_.pg.lt _ e; omega, hb.size⟩)
  clear T3 hb3 hbx HB2 HOP HL3 hst
  go_wp2
  go_ret2
  exact ⟨w3.heap.size, st, r, b, q, F', rfl, HE.out⟩
set_option maxHeartbeats 3200000 in
/-- storeOn with ext.Format: on a disk that was formatted. -/
theorem storeOn_format (api : DiskApi D) {m : Nat} (hm : 401 ≤ m ∧ m ≤ 6000) (h : LawD D w0 w F p (markS (DS.new m) 0 1).2) :
    Calls Tryz.prog 72 #[.pointer (some p), .func (.func 36) #[] #[]] w fun e w' => ∃ kb st r b q F', e = .returned (.tuple #[.pointer (some ⟨kb, 0, none⟩), .int .i64 0]) ∧ KvT D w0 w' F' p (S12 m) q 1 r b st kb (awL 0 []) := by
  obtain ⟨r1, r2, r3, r4, r5, r6, r7⟩ := fresh_log (m := m) (by omega)
  have HO := Lib.hid (law_open_ok api h (law_fresh_open (m := m) (by omega)) r2)
  rw [r3] at HO
  obtain ⟨k1, k2, k3⟩ := Kp.first (n := m) (by omega)
  have hP : 200 ≤ pagesOf ((S12 m).n : Int) ∧ pagesOf ((S12 m).n : Int) ≤ 3000 := by
    rw [k2]
    unfold pagesOf
    omega
  have HK := Lib.hid (And.intro k1.len (And.intro hP h.tab))
  clear h r1 r2 r3 r4 r5 r6 r7 k1 k2 k3 hP
  rw [show (openS (markS (DS.new m) 0 1).2).2.2 = S12 m from rfl] at HO
  generalize S12 m = S2 at *
  go_enter Tryz.func72, Tryz.ntmps72
  go_wp2_with fail
  refine HO.out.mono ?_
  rintro e w1 ⟨q, F', rfl, hq, L3, _⟩
  have HNP := Lib.hid (pnew_any api L3.d L3.log L3.qF (by have := HK.out.2.1; omega))
  have HL3 := Lib.hid L3
  clear L3 HO hq
  go_wp2_with fail
  refine HNP.out.mono ?_
  rintro e w2 ⟨r, b, rfl, hr2, hb2, P2, hbel2⟩
  have hbs := HL3.out.bel.size
  have hO : ∀ k, pgO F' q r b k → w0.heap.size ≤ k := fun k hk => by
    rcases hk with a | a | a | a
    · exact HL3.out.out k a
    · have := HL3.out.q0; omega
    · omega
    · omega
  have htab : TabF w2 F' := HL3.out.toLawD.tabF.below hbel2
  have HOP := Lib.hid (awMade api (w0 := w0) HK.out.2.1 HK.out.2.1 HK.out.1 P2 htab (fun hf => by have := hO _ hf; have := HK.out.2.2.2; omega) (HL3.out.bel.trans (hbel2.mono hbs)) hO)
  clear P2 hbel2 hbs hO htab HNP hr2 hb2
  go_wp2_with fail
  refine HOP.out.mono ?_
  rintro e w3 ⟨st, rfl, O, T3, hb3, hO3⟩
  have hbx : Below w3.heap.size w3 (w3.alloc (.cells #[.pointer (some ⟨st, 0, none⟩), .bool false] 60)) := (Below.refl _ _).alloc (Nat.le_refl _) _
  have HE := Lib.hid (show KvT D w0 (w3.alloc (.cells #[.pointer (some ⟨st, 0, none⟩), .bool false] 60)) F' p S2 q 1 r b st w3.heap.size (awL 0 []) from
    ⟨O, T3.below api hbx, hb3.trans (hbx.mono hb3.size), hO3, heap_alloc_new _ _, fun e => by have := T3.at_.pg.lt _ e; omega, hb3.size⟩)
  clear T3 hb3 hbx HOP HL3 hO3
  go_wp2
  go_ret2
  exact ⟨w3.heap.size, st, r, b, q, F', rfl, HE.out⟩
set_option maxHeartbeats 1600000 in
theorem kvOpen_any (api : DiskApi D) {f : Nat → List Int} (h : LawD D w0 w F p S) (hw : S.writes ≤ 1000000) (hK : Kp S f seq) {M : MV} (hM : HeadIs S [] M) :
    Calls Tryz.prog 25 #[.pointer (some p)] w fun e w' => ∃ kb st r b q F', e = .returned (.tuple #[.pointer (some ⟨kb, 0, none⟩), .int .i64 0]) ∧ KvT D w0 w' F' p (openS S).2.2 q seq r b st kb [] := by
  have HO := Lib.hid (storeOn_open api h hw hK hM)
  clear h hw hK hM
  go_enter Tryz.func25, Tryz.ntmps25
  go_wp2_with fail
  refine HO.out.mono ?_
  rintro e w1 ⟨kb, st, r, b, q, F', rfl, hT⟩
  have HT := Lib.hid hT
  clear HO hT
  go_wp2
  go_ret2
  exact ⟨kb, st, r, b, q, F', rfl, HT.out⟩
set_option maxHeartbeats 3200000 in
/-- Format of a disk of m sectors. -/
theorem kvFormat_any (api : DiskApi D) {m : Nat} (hm : 401 ≤ m ∧ m ≤ 6000) (h : LawD D w0 w F p (DS.new m)) :
    Calls Tryz.prog 26 #[.pointer (some p)] w fun e w' => ∃ kb st r b q F', e = .returned (.tuple #[.pointer (some ⟨kb, 0, none⟩), .int .i64 0]) ∧ KvT D w0 w' F' p (commitS (S12 m) 1 (awL 0 [])).2.2 q 2 r b st kb [] ∧ Rising (awL 0 []) ∧ AllSet (S12 m) (awL 0 []) := by
  obtain ⟨r1, _⟩ := fresh_log (m := m) (by omega)
  obtain ⟨k1, k2, k3⟩ := Kp.first (n := m) (by omega)
  have HFM := Lib.hid (law_format api h (show (DS.new m).writes ≤ _ from Nat.zero_le _))
  rw [r1] at HFM
  have HSO := Lib.hid (fun W F' (h : LawD D w0 W F' p (markS (DS.new m) 0 1).2) => storeOn_format api hm h)
  have HCO := Lib.hid (fun W F' q r b st kb (h : KvT D w0 W F' p (S12 m) q 1 r b st kb (awL 0 [])) => h.commit api k1 (by decide) (by decide) (by rw [k3]; decide))
  clear h r1 k1 k2 k3
  generalize (commitS (S12 m) 1 (awL 0 [])).2.2 = S2 at *
  generalize S12 m = S1 at *
  go_enter Tryz.func26, Tryz.ntmps26
  go_wp2_with fail
  refine HFM.out.mono ?_
  rintro e w1 ⟨rfl, F1, L1, _⟩
  have HS := Lib.hid (HSO.out w1 F1 L1)
  clear L1 HFM HSO
  go_wp2_with fail
  refine HS.out.mono ?_
  rintro e w2 ⟨kb, st, r, b, q, F2, rfl, hT⟩
  have HC := Lib.hid (HCO.out w2 F2 q r b st kb hT)
  obtain ⟨O, t1, _, _, t4, _⟩ := hT
  obtain ⟨c0, c1, c2⟩ := t4.cells
  have c3 := t1.at_.sto.cell
  have HUA := Lib.hid (And.intro t1.at_.pg.up t1.at_.pg.all)
  clear t1 t4 HS HCO c2
  go_wp2_with fail
  refine HC.out.mono ?_
  rintro e w3 ⟨rfl, F3, hT3⟩
  have HE := Lib.hid hT3
  clear hT3 HC c0 c1 c3
  go_wp2
  go_ret2
  exact ⟨kb, st, r, b, q, F3, rfl, HE.out, HUA.out⟩
end
end Go.Proofs.YtinhdimalhfgkaaGreatDoor
