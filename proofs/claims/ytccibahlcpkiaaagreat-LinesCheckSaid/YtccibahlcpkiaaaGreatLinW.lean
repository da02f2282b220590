/-
  The texts LinE, LinW joined. Conditions: those that each part says at its head.
-/
import Derived.Test.YtccibahlcpkiaaaGreatLinD
import Derived.Test.YtccibahlcpkiaaaGreatRevL
import Derived.Deep.RegionHeld3
import Derived.Test.YtccibahlcpkiaaaGreatLinK

/-
  The library's Clone, Reverse and IsSortedFunc over lines by their contracts. Condition: fewer than 2^31 lines.
-/
namespace Go.Proofs.YtccibahlcpkiaaaGreat
open Go.RowKit Go.Maps Go.Sort Go.Shelf
set_option maxRecDepth 100000
set_option linter.unusedVariables false

section
variable {w w' : World} {A : Option Addr} {n k B base : Nat} {l : List Ln}
/-- A block of lines, as a slice of them reads. -/
theorem RL.of_block {g : Nat} {cs : Array Value} {T : TypeId} {fr : Nat × Nat} (hb : w.heap[g]? = some (.cells cs T fr)) (hcs : cs = (lnsV l).toArray) (hl : ∀ x ∈ l, LnOk x) : RL w w.heap.size (some ⟨g, 0, none⟩) l.length l := by
  subst hcs
  refine ⟨rfl, hl, fun _ => ⟨g, 0, rfl, (Array.getElem?_eq_some_iff.1 hb).1, fun j x hx => ?_⟩⟩
  obtain ⟨g0, g1, g2, g3⟩ := lnsV_at hx
  have at_ : ∀ k u, (lnsV l)[k]? = some u → w.cell? ⟨g, k, none⟩ = some u := fun k u hu => by
    rw [cell_of_row _ _ k _ _ fr hb, ← hu]
    simp
  rw [Nat.zero_add]
  exact ⟨at_ _ _ g0, at_ _ _ g1, at_ _ _ g2, at_ _ _ g3⟩
set_option maxHeartbeats 400000 in
theorem cloneLn_any (c : Nat) (h : RL w B A n l) (hB : B ≤ w.heap.size) (hn : n ≤ 2147483647) :
    Calls Tryz.prog 18 #[.slice A n c] w fun e w' => ∃ u, e = .returned u ∧ LOwn w' w.heap.size u l ∧ Below w.heap.size w w' := by
  have q22 : ∀ (w : World) (a : Option Addr) (n c n' c' : Nat), (binOp .eql 23 (.slice a n c) (.slice none n' c')).run Tryz.prog w = .ok (.bool a.isNone) w := fun w a n c n' c' => Lib.run_eql_slice_nil w _ _ a n c n' c' Tryz.underlying23
  rcases A with _ | ad
  · have hm : n = 0 := by
      rcases Nat.eq_zero_or_pos n with h0 | h0
      · exact h0
      · obtain ⟨b, off, e, _⟩ := h.2.2 h0; cases e
    subst hm
    obtain rfl : l = [] := List.eq_nil_of_length_eq_zero h.len
    go_enter Tryz.func18, Tryz.ntmps18
    go_wp2
    go_ret
    exact ⟨_, rfl, LOwn.start _ _, Below.refl _ _⟩
  · have hX : Below w.heap.size w (w.alloc (.cells #[] 37 (0, 0))) := (Below.refl _ _).alloc (Nat.le_refl _) _
    have hO : LOwn (w.alloc (.cells #[] 37 (0, 0))) w.heap.size (.slice (some ⟨w.heap.size, 0, none⟩) 0 0) [] := World.ownsRow_made w #[] 0 (Nat.le_refl _) (Nat.zero_le _) rfl
    obtain ⟨v', w2, hrun, hown, hb2, _⟩ := hO.appendL (c := c) (h.below (hX.mono hB)) (by simp) hn hX.size 23
    rw [List.nil_append] at hown
    have HRUN := Lib.hid hrun
    have HE := Lib.hid (And.intro hown (hX.trans hb2))
    clear hrun hown hb2 hX hO h
    go_enter Tryz.func18, Tryz.ntmps18
    go_wp2_with (at_builtin; refine Lib.wpList_append_run _ rfl _ _ _ _ rfl _ _ rfl rfl _ _ HRUN.out ?_)
    go_ret
    exact ⟨_, rfl, HE.out⟩
theorem revLn_any {u : Value} (h : LOwn w base u l) (hl : l.length ≤ 2147483647) (hB : base ≤ w.heap.size) :
    Calls Tryz.prog 19 #[u] w fun e w' => e = .returned (.tuple #[]) ∧ LOwn w' base u l.reverse ∧ Below base w w' := by
  rcases h.2 with ⟨rfl, h0⟩ | ⟨g, cap, cur, rfl, hb, hg, hc, hcm, hsz, htake⟩
  · obtain rfl := List.eq_nil_of_length_eq_zero h0
    refine (AnyQ.slices_Reverse_empty Tryz.revL none 0 w).mono ?_
    rintro e w' ⟨rfl, rfl⟩
    exact ⟨rfl, h, Below.refl _ _⟩
  · have hflat := flatK_listL l
    have hcell : ∀ k u, (lnsV l)[k]? = some u → w.cell? ⟨g, k, none⟩ = some u := fun k u hu => by
      have hk := (List.getElem?_eq_some_iff.1 hu).1
      rw [lnsV_length] at hk
      rw [cell_of_row w g k cur _ (0, 0) hg, ← hu, ← htake, List.getElem?_take, if_pos (by omega)]
      simp
    have hH : HoldsK lnV 4 w g 0 l.toArray := by
      intro j hj
      have e : (lnsV l)[j]? = some ((flatK lnV 4 l.toArray)[j]!) := by
        rw [← hflat, Array.getElem?_toList, Array.getElem?_eq_getElem hj, getElem!_pos _ j hj]
      refine ⟨?_, ?_⟩
      · rw [Nat.zero_add]; exact hcell _ _ e
      · rw [Nat.zero_add]; exact frozen_of_row w g _ _ _ hg
    have hcon := AnyQ.slices_Reverse Tryz.revL 4 Tryz.isAgg37 Tryz.sizeOf37 lnV (fun _ => rfl) (fun x v hv => lnsV_one [x] v (by simpa [lnsV] using hv)) g 0 cap l.toArray w hH (by simp; omega)
    change Calls Tryz.prog 19 _ _ _ at hcon
    have hsz0 : l.toArray.size = l.length := by simp
    rw [hsz0] at hcon
    refine hcon.mono ?_
    rintro e w' ⟨rfl, m, rfl⟩
    have hgl : g < w.heap.size := (Array.getElem?_eq_some_iff.1 hg).1
    have hrev : l.toArray.reverse = l.reverse.toArray := by simp
    rw [hrev]
    have hfs : (flatK lnV 4 l.reverse.toArray).size = l.length * 4 := by rw [size_flatK]; simp
    have hheap : (putRowK lnV 4 (Sort.ahead w m) g 0 l.reverse.toArray).heap[g]? = some (.cells (putCells id 0 (flatK lnV 4 l.reverse.toArray) cur) 37 (0, 0)) := by
      simp [putRowK, putRow, mapBlock, Sort.ahead, Array.getElem?_modify, hg, onCells]
    refine ⟨rfl, ⟨by rw [lnsV_length], Or.inr ⟨g, cap, _, by rw [List.length_reverse], hb, hheap, by rw [List.length_reverse]; exact hc, hcm, by simpa [putCells] using hsz, ?_⟩⟩, rfl, rfl, rfl, by simp [putRowK, putRow, mapBlock, Sort.ahead], fun j hj => ?_⟩
    · have hfl := flatK_listL l.reverse
      rw [List.length_reverse, ← hfl, ← hfs]
      exact take_putCellsL _ _ (by rw [hfs, hsz]; omega)
    · have : g ≠ j := by omega
      simp [putRowK, putRow, mapBlock, Sort.ahead, Array.getElem?_modify, this]
set_option maxHeartbeats 800000 in
/-- LinesOrder's comparison. -/
theorem cmpOrd_any (W : World) (x y : Ln) :
    Calls Tryz.prog 21 #[.agg #[.int .i64 x.f, .int .i64 x.o, .int .i64 x.n, .int .i64 x.a], .agg #[.int .i64 y.f, .int .i64 y.o, .int .i64 y.n, .int .i64 y.a]] W fun e w' => e = .returned (.int .i64 (cmpLn x y)) ∧ Below W.heap.size W w' := by
  obtain ⟨xf, xo, xn, xa⟩ := x
  obtain ⟨yf, yo, yn, ya⟩ := y
  have HC := Lib.hid (cmpZ_any xf yf)
  have HX := Lib.hid (((Below.refl W.heap.size W).alloc (Nat.le_refl _) (.cells #[.int .i64 xf, .int .i64 xo, .int .i64 xn, .int .i64 xa] 37 (0, 0))).alloc (by simp) (.cells #[.int .i64 yf, .int .i64 yo, .int .i64 yn, .int .i64 ya] 37 (0, 0)))
  unfold cmpLn
  simp only
  generalize cmpZ xf yf = r at HC ⊢
  go_enter Tryz.func21, Tryz.ntmps21
  go_wp2_with fail
  refine (HC.out _).mono ?_
  rintro e w' ⟨rfl, rfl⟩
  go_wp2
  go_ret
  exact ⟨rfl, HX.out⟩
set_option maxHeartbeats 3200000 in
theorem isSortedLn_any (hr : RL w B A n l) (hB : B ≤ w.heap.size) (hn : n ≤ 2147483647) (hup : l.Pairwise (fun x y => x.f < y.f)) :
    Calls Tryz.prog 20 #[.slice A n k, .func (.func 21) #[] #[]] w fun e w' => e = .returned (.bool true) ∧ Below w.heap.size w w' := by
  have HR := Lib.hid (And.intro hr (And.intro hB hup))
  have egc : ∀ args w, (callFunc 21 args).run Tryz.prog w = .ok (.enter 21 args) w := enters_of Tryz.func21 (by kernel_rfl) rfl
  clear hr hB hup
  go_enter Tryz.func20, Tryz.ntmps20
  go_wp2_with fail
  go_loopw [5] (fun i wr => ∃ j : Int, -1 ≤ j ∧ j < n ∧ i = .int .i64 j ∧ Hid (Below w.heap.size w wr)) (fun i _ => (intOf i).toNat)
  case atStart => exact ⟨(n : Int) - 1, by omega, by omega, by go_num, Lib.hid (Below.refl _ _)⟩
  case round =>
    obtain ⟨j, hj1, hj2, rfl, HB⟩ := hrel
    by_cases hpos : 0 < j
    · obtain ⟨J, rfl⟩ : ∃ J : Nat, j = (J : Int) := ⟨j.toNat, by omega⟩
      obtain ⟨q, hJ⟩ : ∃ q : Nat, J = q + 1 := ⟨J - 1, by omega⟩
      have hq : J < n := by omega
      obtain ⟨x, hx⟩ : ∃ x, l[J]? = some x := ⟨_, List.getElem?_eq_getElem (by rw [HR.out.1.len]; exact hq)⟩
      obtain ⟨y, hy⟩ : ∃ y, l[q]? = some y := ⟨_, List.getElem?_eq_getElem (by rw [HR.out.1.len]; omega)⟩
      obtain ⟨b, off, rfl, hbB, hat⟩ := HR.out.1.2.2 (by omega)
      have hbw : b < w.heap.size := Nat.lt_of_lt_of_le hbB HR.out.2.1
      have HAT := Lib.hid (show ∀ W, Below w.heap.size w W → LnAt W b (off + J * 4) x ∧ LnAt W b (off + q * 4) y from fun W hW => ⟨(hat _ _ hx).keep hbB (fun b o hbb => hW.cell (p := ⟨b, o, none⟩) (Nat.lt_of_lt_of_le hbb HR.out.2.1)), (hat _ _ hy).keep hbB (fun b o hbb => hW.cell (p := ⟨b, o, none⟩) (Nat.lt_of_lt_of_le hbb HR.out.2.1))⟩)
      have hlt : y.f < x.f := by
        obtain ⟨h1, e1⟩ := List.getElem?_eq_some_iff.1 hx
        obtain ⟨h2, e2⟩ := List.getElem?_eq_some_iff.1 hy
        have := List.pairwise_iff_getElem.1 HR.out.2.2 q J h2 h1 (by omega)
        rwa [e1, e2] at this
      have hcmp : ¬ cmpLn x y < 0 := fun h => by have := (cmpZ_lt _ _).1 h; omega
      have HCM := Lib.hid (fun W => cmpOrd_any W x y)
      obtain ⟨xf, xo, xn, xa⟩ := x
      obtain ⟨yf, yo, yn, ya⟩ := y
      simp only at HCM hcmp
      generalize cmpLn ⟨xf, xo, xn, xa⟩ ⟨yf, yo, yn, ya⟩ = cv at HCM hcmp
      have x1 := (HAT.out wr.drew HB.out.drew)
      unfold LnAt at x1
      clear hx hy hat hlt hj1 hj2
      have hqi : (J : Int) < (n : Int) := by omega
      have hq0 : (0 : Int) < (J : Int) := by omega
      have hq1 : (0 : Int) ≤ (J : Int) := by omega
      have hw1 : IntKind.i64.wrap ((J : Int) - 1) = (q : Int) := by rw [IntKind.wrap_i64]; omega
      have hr0 : (0 : Int) ≤ (q : Int) := by omega
      have hr1 : (q : Int) < (n : Int) := by omega
      have hJq := Lib.hid hJ
      clear hJ hq hpos
      obtain ⟨⟨p0, p1, p2, p3⟩, r0, r1, r2, r3⟩ := x1
      go_wp2_with fail
      go_region_held3 (fun W => (W.cell? ⟨b, off + J * 4, none⟩ = some (.int .i64 xf) ∧ W.cell? ⟨b, off + J * 4 + 1, none⟩ = some (.int .i64 xo) ∧ W.cell? ⟨b, off + J * 4 + 2, none⟩ = some (.int .i64 xn) ∧ W.cell? ⟨b, off + J * 4 + 3, none⟩ = some (.int .i64 xa)) ∧ W.cell? ⟨b, off + q * 4, none⟩ = some (.int .i64 yf) ∧ W.cell? ⟨b, off + q * 4 + 1, none⟩ = some (.int .i64 yo) ∧ W.cell? ⟨b, off + q * 4 + 2, none⟩ = some (.int .i64 yn) ∧ W.cell? ⟨b, off + q * 4 + 3, none⟩ = some (.int .i64 ya))
        (first | exact ⟨⟨p0, p1, p2, p3⟩, r0, r1, r2, r3⟩ | exact x2)
        (first
          | (go_at_call 21; refine (HCM.out _).mono ?_; rintro e w4 ⟨rfl, hb4⟩; have HB4 := Lib.hid ((HB.out.drew).trans (hb4.mono HB.out.drew.size)); have x2 := HAT.out w4 HB4.out))
      go_wp2
      go_roundw
      case rel => exact ⟨(q : Int), by omega, by omega, rfl, HB4⟩
      case measure => have := hJq.out; simp [intOf]; omega
    · have hnp : ¬ (0 : Int) < j := by omega
      go_wp2
      go_ret
      exact ⟨rfl, HB.out⟩
end
end Go.Proofs.YtccibahlcpkiaaaGreat

/-
  The lines laws' own check: it returns true. No condition.
-/
namespace Go.Proofs.YtccibahlcpkiaaaGreat
open Go.RowKit Go.Maps
set_option maxRecDepth 100000
set_option linter.unusedVariables false

def lw0 : VS := ⟨[], []⟩
def lwA : Txt := [97]
def lw1 : VS := lw0.put (tx (keyL 70 [100])) (by_ lwA)
def lwL : List Ln := [⟨100, 1010, 0, 5⟩, ⟨100, 3000, 0, -5⟩]
def lwM : List Ln := [⟨100, 1010, 0, 5⟩, ⟨100, 3000, 0, -4⟩]
theorem lw_a : newFundE lw0 100 lwA = 0 := by decide +kernel
theorem lw_1 : newFund lw0 100 lwA = lw1 := by unfold newFund; rw [lw_a]; rfl
theorem lw_b : checkE lw1 lwL = 0 := by decide +kernel
theorem lw_c : checkE lw1 lwM = 10 := by decide +kernel
theorem lw_d : evenF (fundsOf lwL) = true := by decide +kernel
theorem lw_e : evenF (fundsOf lwM) = false := by decide +kernel
theorem lw_scan : ScanOk lw0 := ⟨by decide, fun p (h : p ∈ ([] : TL)) => absurd h List.not_mem_nil, by decide, fun p (h : p ∈ ([] : List (Txt × Option (List Int)))) => absurd h List.not_mem_nil⟩
theorem lwL_ok : ∀ x ∈ lwL, LnOk x := by
  intro x hx
  unfold lwL at hx
  simp only [List.mem_cons, List.not_mem_nil, or_false] at hx
  rcases hx with rfl | rfl <;> (unfold LnOk B64; simp only; omega)
theorem lwM_ok : ∀ x ∈ lwM, LnOk x := by
  intro x hx
  unfold lwM at hx
  simp only [List.mem_cons, List.not_mem_nil, or_false] at hx
  rcases hx with rfl | rfl <;> (unfold LnOk B64; simp only; omega)
def lwC : Array Value := #[.int .i64 100, .int .i64 1010, .int .i64 0, .int .i64 5, .int .i64 100, .int .i64 3000, .int .i64 0, .int .i64 (-5)]
set_option maxHeartbeats 6400000 in
theorem linAwake_any (w : World) : Calls Tryz.prog 6 #[] w fun e w' => e = .returned (.bool true) ∧ Below w.heap.size w w' := by
  have HN := Lib.hid (vNew_any w (fun _ => False) (fun k h => h.elim))
  go_enter Tryz.func6, Tryz.ntmps6
  go_wp2_with fail
  refine HN.out.mono ?_
  rintro e w1 ⟨v, m, c, rfl, h1, hb1, hv, hm, hc⟩
  obtain ⟨X, hX⟩ : ∃ X : Nat → Prop, X = fun k => False ∨ k = v ∨ k = m ∨ k = c := ⟨_, rfl⟩
  rw [← hX] at h1
  have HA := Lib.hid (show Calls Tryz.prog 9 #[.pointer (some ⟨v, 0, none⟩), .int .i64 100, .string { data := #[97] }] w1 fun e w' => e = .returned (.int .i64 0) ∧ ViewAt w' X v m c lw1 ∧ Touch (fun k => k = c) w1 w' from by
    have := newFund_any h1 lw_scan 100 (by omega) lwA (by decide)
    rwa [show (⟨[], []⟩ : VS) = lw0 from rfl, lw_a, lw_1] at this)
  have HB := Lib.hid (And.intro hb1 hc)
  clear h1 hb1 hX hv hm hc HN
  go_wp2_with fail
  refine HA.out.mono ?_
  rintro e w2 ⟨rfl, h2, t2⟩
  have hb2 := HB.out.1.trans (t2.below (fun k e => by rw [e]; exact HB.out.2) HB.out.1.size)
  have hblk : (w2.alloc (.cells #[.int .i64 100, .int .i64 1010, .int .i64 0, .int .i64 5, .int .i64 100, .int .i64 3000, .int .i64 0, .int .i64 (-5)] 37 (0, 0))).heap[w2.heap.size]? = some (.cells #[.int .i64 100, .int .i64 1010, .int .i64 0, .int .i64 5, .int .i64 100, .int .i64 3000, .int .i64 0, .int .i64 (-5)] 37 (0, 0)) := heap_alloc_new w2 _
  have hba : Below w2.heap.size w2 (w2.alloc (.cells #[.int .i64 100, .int .i64 1010, .int .i64 0, .int .i64 5, .int .i64 100, .int .i64 3000, .int .i64 0, .int .i64 (-5)] 37 (0, 0))) := (Below.refl _ _).alloc (Nat.le_refl _) _
  have hlt3 := (Array.getElem?_eq_some_iff.1 hblk).1
  have h3 : ViewAt (w2.alloc (.cells #[.int .i64 100, .int .i64 1010, .int .i64 0, .int .i64 5, .int .i64 100, .int .i64 3000, .int .i64 0, .int .i64 (-5)] 37 (0, 0))) (fun k => X k ∨ k = w2.heap.size) v m c lw1 :=
    h2.keep hba.size (fun k hk hn he => by rcases he with he | he; exact hn he; omega) (fun k hk => .inl hk) (fun k hk => by rcases hk with hk | hk; exact Nat.lt_of_lt_of_le (h2.lt k hk) hba.size; rw [hk]; exact hlt3) (fun k hk _ => hba.block k hk)
  have hvg : v ≠ w2.heap.size ∧ m ≠ w2.heap.size ∧ c ≠ w2.heap.size := ⟨Nat.ne_of_lt (h2.lt _ h2.xv), Nat.ne_of_lt (h2.lt _ h2.xm), Nat.ne_of_lt (h2.lt _ h2.xc)⟩
  have HC1 := Lib.hid (linesCheckP_any (k := 2) h3 (RL.of_block (l := lwL) hblk rfl lwL_ok) (Nat.le_refl _) (by decide) (by decide))
  rw [lw_b] at HC1
  generalize hw3 : w2.alloc (.cells #[.int .i64 100, .int .i64 1010, .int .i64 0, .int .i64 5, .int .i64 100, .int .i64 3000, .int .i64 0, .int .i64 (-5)] 37 (0, 0)) = w3 at HC1 h3 hblk hba hlt3
  have HS3 := Lib.hid (And.intro h3 (And.intro hblk (And.intro (hb2.trans (hba.mono hb2.size)) (And.intro hvg (And.intro hb2.size hlt3)))))
  obtain ⟨g, hg⟩ : ∃ g, g = w2.heap.size := ⟨_, rfl⟩
  rw [← hg] at HC1 HS3
  have hlen : lwL.length = 2 := rfl
  rw [hlen] at HC1
  clear h2 t2 hb2 hblk hba hlt3 h3 hvg HA HB
  go_wp2_with fail
  rw [← hg]
  clear hw3 hg
  refine HC1.out.mono ?_
  rintro e w4 ⟨rfl, hb4⟩
  have HQ1 := Lib.hid (linesEqual_any (k := 2) ((RL.of_block (l := lwL) HS3.out.2.1 rfl lwL_ok).below hb4) hb4.size (by decide))
  rw [lw_d, hlen] at HQ1
  have HB4 := Lib.hid hb4
  clear hb4 HC1
  go_wp2_with fail
  refine HQ1.out.mono ?_
  rintro e w5 ⟨rfl, hb5⟩
  have hb35 := HB4.out.trans (hb5.mono HB4.out.size)
  have h5 := HS3.out.1.below hb35
  have hblk5 := (hb35.block g HS3.out.2.2.2.2.2).trans HS3.out.2.1
  have hcl : w5.cell? ⟨g, 7, none⟩ = some (.int .i64 (-5)) := cell_of_row w5 g 7 _ _ (0, 0) hblk5
  have hfz : w5.frozen? ⟨g, 7, none⟩ = false := frozen_of_row w5 g 7 _ _ hblk5
  have hset := heap_setCell_same w5 g 7 _ 37 (.int .i64 (-4)) hblk5
  have hsz : w5.heap.size ≤ (w5.setCell ⟨g, 7, none⟩ (.int .i64 (-4))).heap.size := by simp [World.setCell]
  have h6 : ViewAt (w5.setCell ⟨g, 7, none⟩ (.int .i64 (-4))) (fun k => X k ∨ k = g) v m c lw1 :=
    h5.keep hsz (fun _ _ h => h) (fun _ h => h) (fun k hk => Nat.lt_of_lt_of_le (h5.lt k hk) hsz) (fun k hk hk2 => Below.heap_setCell _ _ _ _ (by
      show k ≠ g
      obtain ⟨q1, q2, q3⟩ := HS3.out.2.2.2.1
      rcases hk2 with e | e | e | e
      · rw [e]; exact q1
      · rw [e]; exact q2
      · rw [e]; exact q3
      · exact fun h => e (.inr h)))
  have hb6 : Below w.heap.size w (w5.setCell ⟨g, 7, none⟩ (.int .i64 (-4))) := by
    have h0 := HS3.out.2.2.1.trans (hb35.mono HS3.out.2.2.1.size)
    refine ⟨h0.os, h0.tape, h0.output, Nat.le_trans h0.size hsz, fun k hk => (Below.heap_setCell _ _ _ _ (by show k ≠ g; have := HS3.out.2.2.2.2.1; omega)).trans (h0.block k hk)⟩
  have hRM : RL (w5.setCell ⟨g, 7, none⟩ (.int .i64 (-4))) (w5.setCell ⟨g, 7, none⟩ (.int .i64 (-4))).heap.size (some ⟨g, 0, none⟩) lwM.length lwM := RL.of_block hset rfl lwM_ok
  have hlenM : lwM.length = 2 := rfl
  rw [hlenM] at hRM
  have HC2 := Lib.hid (linesCheckP_any (k := 2) h6 hRM (Nat.le_refl _) (by decide) (by decide))
  rw [lw_c] at HC2
  have HS6 := Lib.hid (And.intro hRM hb6)
  clear hb5 hb35 h5 hblk5 hset hsz h6 hb6 hRM HQ1 HS3 HB4 hlen hlenM
  go_wp2_with fail
  refine HC2.out.mono ?_
  rintro e w7 ⟨rfl, hb7⟩
  have HQ2 := Lib.hid (linesEqual_any (k := 2) (HS6.out.1.below hb7) hb7.size (by decide))
  rw [lw_e] at HQ2
  have HB7 := Lib.hid (HS6.out.2.trans (hb7.mono HS6.out.2.size))
  clear hb7 HC2 hcl hfz
  go_wp2_with fail
  refine HQ2.out.mono ?_
  rintro e w8 ⟨rfl, hb8⟩
  have HB8 := Lib.hid (HB7.out.trans (hb8.mono HB7.out.size))
  clear hb8
  go_wp2
  go_ret
  exact ⟨rfl, HB8.out⟩
end Go.Proofs.YtccibahlcpkiaaaGreat
