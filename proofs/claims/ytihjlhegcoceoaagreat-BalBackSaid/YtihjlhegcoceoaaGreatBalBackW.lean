/-
  BalBack by the walk: it returns true. Condition: what came in is a slice of additions as the statement opens it.
-/
import Derived.Test.YtihjlhegcoceoaaGreatBalG
import Derived.Test.YtihjlhegcoceoaaGreatBalF
namespace Go.Proofs.YtihjlhegcoceoaaGreat
open Go.RowKit Go.Maps
set_option maxRecDepth 100000
set_option linter.unusedVariables false

def dk (d : Do25) : Txt × Int := (bKy d.y d.l.f d.l.o, d.l.a)
/-- The row that a value is lies in a block of its own, apart from the view. -/
def RowApart (X : Nat → Prop) (v m c : Nat) (u : Value) : Prop := ∀ g, u.ownBlock = some g → X g ∧ g ≠ v ∧ g ≠ m ∧ g ≠ c
section
variable {w w' : World} {X : Nat → Prop} {v m c : Nat} {S : VS}
theorem back_push {u u' : Value} (h : ViewAt w X v m c S) (hu : RowApart X v m c u) (hg : w.grownBy w' u.ownBlock) (ho : u'.ownBlock = u.ownBlock ∨ u'.ownBlock = some w.heap.size) (hat : ∀ g, u'.ownBlock = some g → g < w'.heap.size) : ∃ X', ViewAt w' X' v m c S ∧ RowApart X' v m c u' := by
  refine ⟨fun k => X k ∨ u'.ownBlock = some k, h.keep hg.size (fun k hk hn hx => ?_) (fun k hk => .inl hk) (fun k hk => ?_) (fun k hk hh => ?_), fun g e => ⟨.inr e, ?_⟩⟩
  · rcases hx with hx | hx
    · exact hn hx
    · rcases ho with ho | ho
      · rw [ho] at hx; exact hn (hu k hx).1
      · rw [ho] at hx; injection hx with hx; omega
  · rcases hk with hk | hk
    · exact Nat.lt_of_lt_of_le (h.lt k hk) hg.size
    · exact hat k hk
  · refine hg.block k hk fun e => ?_
    have := hu k e.symm
    rcases hh with rfl | rfl | rfl | hh
    · exact this.2.1 rfl
    · exact this.2.2.1 rfl
    · exact this.2.2.2 rfl
    · exact hh this.1
  · rcases ho with ho | ho
    · rw [ho] at e; exact (hu g e).2
    · rw [ho] at e
      injection e with e
      subst e
      exact ⟨Nat.ne_of_gt (h.lt v h.xv), Nat.ne_of_gt (h.lt m h.xm), Nat.ne_of_gt (h.lt c h.xc)⟩
theorem back_turn {u : Value} (h : ViewAt w X v m c S) (hu : RowApart X v m c u) (hs : w'.heap.size = w.heap.size) (hk : ∀ j, u.ownBlock ≠ some j → w'.heap[j]? = w.heap[j]?) : ViewAt w' X v m c S := by
  refine h.keep (Nat.le_of_eq hs.symm) (fun _ _ q => q) (fun _ q => q) (fun k q => by rw [hs]; exact h.lt k q) (fun k _ hh => hk k fun e => ?_)
  have := hu k e
  rcases hh with rfl | rfl | rfl | hh
  · exact this.2.1 rfl
  · exact this.2.2.1 rfl
  · exact this.2.2.2 rfl
  · exact hh this.1
end
/-- Behind k rounds of the first loop. -/
def DoneAt (w0 wr : World) (base v m c k : Nat) (u : Value) : Prop :=
  ∃ (S : VS) (X : Nat → Prop) (done : List Do25), ViewAt wr X v m c S ∧ BalS S k ∧ DOwn wr base u done ∧ RowApart X v m c u ∧ Chain (done.reverse.map dk) (fun x => seqV (S.now x)) ∧ (∀ d ∈ done, Do25Ok d) ∧ done.length ≤ k ∧ Below w0.heap.size w0 wr ∧ base ≤ wr.heap.size
/-- Behind k rounds of the second. -/
def GoneAt (w0 wr : World) (base v m c j k : Nat) (u : Value) (rev : List Do25) : Prop :=
  ∃ (S : VS) (X : Nat → Prop), ViewAt wr X v m c S ∧ BalS S (j + k) ∧ DOwn wr base u rev ∧ RowApart X v m c u ∧ Chain ((rev.drop k).map dk) (fun x => seqV (S.now x)) ∧ Below w0.heap.size w0 wr
theorem dk_len (d : Do25) : (dk d).1.length ≤ 60 := by show (bKy _ _ _).length ≤ 60; rw [bKy_len]; omega

set_option maxHeartbeats 6400000 in
theorem balBack_any {w : World} {A : Option Addr} {n cap : Nat} {ds : List Do25} (hr : RDos25 w w.heap.size A n ds) (hcap : n ≤ cap) (hn : n ≤ maxLen) :
    Calls Tryz.prog 3 #[.slice A n cap] w fun e w' => e = .returned (.bool true) ∧ Below w.heap.size w w' := by
  unfold maxLen at hn
  by_cases big : 60 < n
  · have k1 : decide ((n : Int) > 60) = true := decide_eq_true (by omega)
    clear hr
    go_enter Tryz.func3, Tryz.ntmps3
    go_wp2_with fail
    refine (balAwake_any _).mono ?_
    rintro e w1 ⟨rfl, hb⟩
    have HE := Lib.hid hb
    clear hb
    go_wp2
    go_ret
    exact ⟨rfl, HE.out⟩
  have k1 : decide ((n : Int) > 60) = false := decide_eq_false (by omega)
  have HN := Lib.hid (vNew_any w (fun _ => False) (fun k h => h.elim))
  go_enter Tryz.func3, Tryz.ntmps3
  go_wp2_with fail
  refine HN.out.mono ?_
  rintro e w1 ⟨v, m, c, rfl, h1, hb1, hv, hm, hc⟩
  have H0 : Hid (DoneAt w w1 w1.heap.size v m c 0 (.slice none 0 0)) := Lib.hid ⟨_, _, [], h1, BalS.start, DOwn.start _ _, (fun g e => by simp [Value.ownBlock] at e), (fun x => rfl), (fun d hd => by cases hd), Nat.le_refl _, hb1, Nat.le_refl _⟩
  have HC := Lib.hid (show w.heap.size ≤ c ∧ c < w1.heap.size ∧ w.heap.size ≤ w1.heap.size from ⟨hc, h1.lt c h1.xc, hb1.size⟩)
  have HR := Lib.hid hr
  obtain ⟨base, hbase⟩ : ∃ base, base = w1.heap.size := ⟨_, rfl⟩
  rw [← hbase] at H0 HC
  clear h1 hb1 hv hm hc HN hr hbase
  go_wp2_with fail
  go_loopw [4, 16] (fun u i wr => ∃ k : Nat, k ≤ n ∧ i = .int .i64 k ∧ Hid (DoneAt w wr base v m c k u)) (fun _ i _ => n - (intOf i).toNat)
  case atStart => exact ⟨0, Nat.zero_le _, rfl, H0⟩
  case round =>
    obtain ⟨k, hk, rfl, ho⟩ := hrel
    by_cases hlt : k < n
    · have hlt' : (k : Int) < (n : Int) := by omega
      obtain ⟨S, X, done, hvw, hbs, hown, hap, hch, hdok, hdl, hbw, hbr⟩ := ho.out
      obtain ⟨b, off, rfl, hb, hat⟩ := HR.out.2.2 (by omega)
      obtain ⟨x, hx⟩ : ∃ x, ds[k]? = some x := ⟨_, List.getElem?_eq_getElem (by rw [HR.out.len]; exact hlt)⟩
      have hxok := HR.out.ok x (List.mem_of_getElem? hx)
      obtain ⟨d0, d1, d2, d3, d4⟩ := (hat k x hx).keep hb (fun b o hbb => hbw.cell (p := ⟨b, o, none⟩) hbb)
      obtain ⟨yy, f, o, nn, a⟩ := x
      obtain ⟨wx, hwx⟩ : ∃ wx, wx = wr.alloc (.cells #[.int .i64 yy, .int .i64 f, .int .i64 o, .int .i64 nn, .int .i64 a] 29 (0, 0)) := ⟨_, rfl⟩
      have hba : Below wr.heap.size wr wx := by rw [hwx]; exact (Below.refl _ _).alloc (Nat.le_refl _) _
      have hblk : wx.heap[wr.heap.size]? = some (.cells #[.int .i64 yy, .int .i64 f, .int .i64 o, .int .i64 nn, .int .i64 a] 29 (0, 0)) := by rw [hwx]; exact heap_alloc_new wr _
      have hszx : wx.heap.size = wr.heap.size + 1 := by rw [hwx]; simp
      have q0 : wx.cell? ⟨wr.heap.size, 0, none⟩ = some (.int .i64 yy) := cell_of_row wx _ 0 _ _ (0, 0) hblk
      have q1 : wx.cell? ⟨wr.heap.size, 1, none⟩ = some (.int .i64 f) := cell_of_row wx _ 1 _ _ (0, 0) hblk
      have q2 : wx.cell? ⟨wr.heap.size, 2, none⟩ = some (.int .i64 o) := cell_of_row wx _ 2 _ _ (0, 0) hblk
      have q3 : wx.cell? ⟨wr.heap.size, 3, none⟩ = some (.int .i64 nn) := cell_of_row wx _ 3 _ _ (0, 0) hblk
      have q4 : wx.cell? ⟨wr.heap.size, 4, none⟩ = some (.int .i64 a) := cell_of_row wx _ 4 _ _ (0, 0) hblk
      have hvx := hvw.below hba
      have hC : S.C.length < maxLen := Nat.lt_of_le_of_lt hbs.c (by unfold maxLen; omega)
      have HADD := Lib.hid (balAdd_any hvx yy f o nn a hxok.1 hxok.2.1 hxok.2.2.1 hC)
      have hnewS : BalS (S.addB (bKy yy f o) a) (k + 1) := hbs.add (by rw [bKy_len]; omega) a
      have HCH := Lib.hid (show ∀ h0 : (amtAddR (seqV (S.now (bKy yy f o))) a).2 = 0, Chain (((done ++ ([⟨yy, ⟨f, o, nn, a⟩⟩] : List Do25)).reverse).map dk) (fun y => seqV ((S.addB (bKy yy f o) a).now y)) from fun h0 => by
        rw [List.reverse_append]
        exact hch.add hbs (by rw [bKy_len]; omega) h0)
      have HNO := Lib.hid (show (amtAddR (seqV (S.now (bKy yy f o))) a).2 ≠ 0 → S.addB (bKy yy f o) a = S from fun h0 => by unfold VS.addB; rw [if_neg h0])
      have hownx := hown.below hba
      obtain ⟨PA, PK, rfl, hPK⟩ := hown.shape
      have hgx : ∀ g, (Value.slice PA done.length PK).ownBlock = some g → g < wr.heap.size := fun g e => (hown.at_ g e).2
      generalize amtAddR (seqV (S.now (bKy yy f o))) a = r at HADD HCH HNO
      generalize S.addB (bKy yy f o) a = S1 at HADD HCH HNO hnewS
      obtain ⟨r1, r2⟩ := r
      have hlive : c < wr.heap.size := by have := HC.out.2; omega
      have HS := Lib.hid (And.intro hvw (And.intro hbs (And.intro hown (And.intro hap (And.intro hdok (And.intro hdl (And.intro hbw hbr)))))))
      have HX := Lib.hid (And.intro hba (And.intro hownx (And.intro hnewS (And.intro hblk (And.intro hszx (And.intro hxok hgx))))))
      have HCHS := Lib.hid hch
      clear hvw hbs hown hap hch hdok hdl hbw hbr hba hownx hnewS hblk hszx hxok hgx hat hx hvx hC hPK
      go_wp2_with fail
      rw [← hwx]
      go_wp2_with fail
      refine HADD.out.mono ?_
      rintro e w2 ⟨rfl, hv2, ht2⟩
      have hb02 : Below w.heap.size w w2 := (HS.out.2.2.2.2.2.2.1.trans (HX.out.1.mono HS.out.2.2.2.2.2.2.1.size)).trans (ht2.below (fun k e => by rw [e]; exact HC.out.1) (Nat.le_trans HS.out.2.2.2.2.2.2.1.size HX.out.1.size))
      have hsz2 := ht2.size
      have hlw : wr.heap.size < wx.heap.size := by rw [HX.out.2.2.2.2.1]; exact Nat.lt_succ_self _
      have hown2 : DOwn w2 base (.slice PA done.length PK) done := HX.out.2.1.stays fun g e => ht2.block g (Nat.lt_trans (HX.out.2.2.2.2.2.2 g e) hlw) (HS.out.2.2.2.1 g e).2.2.2
      have hblk2 := (ht2.block wr.heap.size hlw (by omega)).trans HX.out.2.2.2.1
      have hbr2 : base ≤ w2.heap.size := Nat.le_trans HS.out.2.2.2.2.2.2.2 (Nat.le_trans HX.out.1.size hsz2)
      by_cases h0 : r2 = 0
      · subst h0
        have p0 : w2.cell? ⟨wr.heap.size, 0, none⟩ = some (.int .i64 yy) := cell_of_row w2 _ 0 _ _ (0, 0) hblk2
        have p1 : w2.cell? ⟨wr.heap.size, 1, none⟩ = some (.int .i64 f) := cell_of_row w2 _ 1 _ _ (0, 0) hblk2
        have p2 : w2.cell? ⟨wr.heap.size, 2, none⟩ = some (.int .i64 o) := cell_of_row w2 _ 2 _ _ (0, 0) hblk2
        have p3 : w2.cell? ⟨wr.heap.size, 3, none⟩ = some (.int .i64 nn) := cell_of_row w2 _ 3 _ _ (0, 0) hblk2
        have p4 : w2.cell? ⟨wr.heap.size, 4, none⟩ = some (.int .i64 a) := cell_of_row w2 _ 4 _ _ (0, 0) hblk2
        have hY : Below w2.heap.size w2 (w2.alloc (.cells #[.int .i64 yy, .int .i64 f, .int .i64 o, .int .i64 nn, .int .i64 a] 29 (0, 0))) := (Below.refl _ _).alloc (Nat.le_refl _) _
        obtain ⟨v', w6, hrun, hown6, hb6, hg6, ho6⟩ := (hown2.below hY).append1 (x := ⟨yy, ⟨f, o, nn, a⟩⟩) (heap_alloc_new w2 _) HX.out.2.2.2.2.2.1 (by have := HS.out.2.2.2.2.2.1; omega) (Nat.le_trans hbr2 hY.size) 22
        obtain ⟨X6, hv6, hap6⟩ := back_push (u := .slice PA done.length PK) (hv2.below hY) HS.out.2.2.2.1 hg6 ho6 (fun g e => (hown6.at_ g e).2)
        have HE := Lib.hid (show DoneAt w w6 base v m c (k + 1) v' from ⟨_, X6, _, hv6, HX.out.2.2.1, hown6, hap6, HCH.out rfl, (fun d hd => by
          rcases List.mem_append.1 hd with hd | hd
          · exact HS.out.2.2.2.2.1 d hd
          · obtain rfl := List.mem_singleton.1 hd
            exact HX.out.2.2.2.2.2.1), (by have := HS.out.2.2.2.2.2.1; rw [List.length_append]; show done.length + 1 ≤ k + 1; omega), (hb02.trans (hY.mono hb02.size)).trans (hb6.mono HC.out.2.2), Nat.le_trans hbr2 (Nat.le_trans hY.size hb6.size)⟩)
        have HRUN := Lib.hid hrun
        clear hv2 ht2 hb02 hsz2 hlw hown2 hblk2 hbr2 hY hrun hown6 hb6 hg6 ho6 hv6 hap6 HX HS HCH HNO HCHS HADD q0 q1 q2 q3 q4 d0 d1 d2 d3 d4 hwx hlive
        go_wp2_with (at_builtin; refine Lib.wpList_append_run _ rfl _ _ _ _ rfl _ _ rfl rfl _ _ HRUN.out ?_)
        go_roundw
        case rel => exact ⟨k + 1, by omega, by go_num, HE⟩
        case measure => simp [intOf]; omega
      · have d0' : (r2 == 0) = false := by simp [h0]
        have HE := Lib.hid (show DoneAt w w2 base v m c (k + 1) (.slice PA done.length PK) from ⟨S, X, done, (by have := hv2; rwa [HNO.out h0] at this), HS.out.2.1.more, hown2, HS.out.2.2.2.1, HCHS.out, HS.out.2.2.2.2.1, Nat.le_succ_of_le HS.out.2.2.2.2.2.1, hb02, hbr2⟩)
        clear hv2 ht2 hb02 hsz2 hlw hown2 hblk2 hbr2 HX HS HCH HNO HCHS HADD q0 q1 q2 q3 q4 d0 d1 d2 d3 d4 hwx hlive h0
        go_wp2_with fail
        go_roundw
        case rel => exact ⟨k + 1, by omega, by go_num, HE⟩
        case measure => simp [intOf]; omega
    · obtain rfl : k = n := by omega
      obtain ⟨S, X, done, hvw, hbs, hown, hap, hch, hdok, hdl, hbw, hbr⟩ := ho.out
      have hrev := revDo_any hown (by omega) hbr
      obtain ⟨PA, PK, rfl, hPK⟩ := hown.shape
      obtain ⟨N, hN⟩ : ∃ N, N = done.length := ⟨_, rfl⟩
      rw [← hN] at hrev hdl hPK hap
      have HREV := Lib.hid hrev
      have HS := Lib.hid (And.intro hvw (And.intro hbs (And.intro hap (And.intro hch (And.intro hdok (And.intro hbw hN))))))
      rw [← hN]
      clear hvw hbs hown hap hch hdok hbw hbr hrev hN ho H0
      go_wp2_with fail
      refine HREV.out.mono ?_
      rintro e w2 ⟨rfl, hown2, hb2, hsz2, hk2⟩
      obtain ⟨rev, hrv⟩ : ∃ rev, rev = done.reverse := ⟨_, rfl⟩
      rw [← hrv] at hown2
      have hN2 : rev.length = N := by rw [hrv, List.length_reverse]; exact HS.out.2.2.2.2.2.2.symm
      have hrok : ∀ d ∈ rev, Do25Ok d := fun d hd => HS.out.2.2.2.2.1 d (by rw [hrv] at hd; exact List.mem_reverse.1 hd)
      have H1 : Hid (GoneAt w w2 base v m c k 0 (.slice PA N PK) rev) := Lib.hid ⟨_, X, back_turn (u := .slice PA N PK) HS.out.1 HS.out.2.2.1 hsz2 hk2, HS.out.2.1, hown2, HS.out.2.2.1, (by rw [hrv]; exact HS.out.2.2.2.1), HS.out.2.2.2.2.2.1.trans (hb2.mono HC.out.2.2)⟩
      have HRV := Lib.hid (And.intro hN2 hrok)
      clear hown2 hb2 hsz2 hk2 hrv hN2 hrok HS HREV HR
      go_wp2_with fail
      go_loopw [36] (fun i wr => ∃ j : Nat, j ≤ N ∧ i = .int .i64 j ∧ Hid (GoneAt w wr base v m c k j (.slice PA N PK) rev)) (fun i _ => N - (intOf i).toNat)
      case atStart => exact ⟨0, Nat.zero_le _, rfl, H1⟩
      case round =>
        obtain ⟨j, hj, rfl, ho⟩ := hrel
        by_cases hlt2 : j < N
        · have hlt2' : (j : Int) < (N : Int) := by omega
          obtain ⟨S, X, hvw, hbs, hown, hap, hch, hbw⟩ := ho.out
          have hrd := (hown.read HRV.out.2).2.2
          obtain ⟨b, off, rfl, hb, hat⟩ := hrd.2.2 (by omega)
          obtain ⟨x, hx⟩ : ∃ x, rev[j]? = some x := ⟨_, List.getElem?_eq_getElem (by rw [HRV.out.1]; exact hlt2)⟩
          have hxok := HRV.out.2 x (List.mem_of_getElem? hx)
          have hdrop : rev.drop j = x :: rev.drop (j + 1) := by
            obtain ⟨h1, h2⟩ := List.getElem?_eq_some_iff.1 hx
            rw [List.drop_eq_getElem_cons h1, h2]
          obtain ⟨d0, d1, d2, d3, d4⟩ := hat j x hx
          obtain ⟨yy, f, o, nn, a⟩ := x
          rw [hdrop] at hch
          have hch : Chain ((bKy yy f o, a) :: (rev.drop (j + 1)).map dk) (fun x => seqV (S.now x)) := hch
          obtain ⟨hadd0, hchN⟩ := hch.back hbs (by rw [bKy_len]; omega)
          have hfa : FitsI a := hch.1
          have hneg : IntKind.i64.wrap (-a) = -a := by rw [IntKind.wrap_i64]; have := hfa.1; have := hfa.2; first | (unfold wrap64; omega) | omega
          obtain ⟨wy, hwy⟩ : ∃ wy, wy = wr.alloc (.cells #[.int .i64 yy, .int .i64 f, .int .i64 o, .int .i64 nn, .int .i64 (-a)] 29 (0, 0)) := ⟨_, rfl⟩
          have hbwy : Below wr.heap.size wr wy := by rw [hwy]; exact (Below.refl _ _).alloc (Nat.le_refl _) _
          have hC : S.C.length < maxLen := Nat.lt_of_le_of_lt hbs.c (by unfold maxLen; omega)
          have HADD := Lib.hid (balAdd_any (hvw.below hbwy) yy f o nn (-a) hxok.1 hxok.2.1 hxok.2.2.1 hC)
          rw [hadd0] at HADD
          have HNEXT := Lib.hid (show ∀ w4, ViewAt w4 X v m c (S.addB (bKy yy f o) (-a)) → Touch (fun k => k = c) wy w4 → GoneAt w w4 base v m c k (j + 1) (.slice (some ⟨b, off, none⟩) N PK) rev from fun w4 hv4 ht4 => ⟨_, X, hv4, hbs.add (by rw [bKy_len]; omega) (-a), (hown.below hbwy).stays (fun g e => ht4.block g (Nat.lt_of_lt_of_le (hown.at_ g e).2 hbwy.size) (hap g e).2.2.2), hap, hchN, (hbw.trans (hbwy.mono hbw.size)).trans (ht4.below (fun k e => by rw [e]; exact HC.out.1) (Nat.le_trans hbw.size hbwy.size))⟩)
          generalize S.addB (bKy yy f o) (-a) = S1 at HADD HNEXT
          clear hvw hbs hown hap hch hbw hrd hat hx hxok hdrop hadd0 hchN hfa hbwy hC ho
          go_wp2_with fail
          rw [← hwy]
          clear hwy
          refine HADD.out.mono ?_
          rintro e w4 ⟨rfl, hv4, ht4⟩
          have HE := Lib.hid (HNEXT.out w4 hv4 ht4)
          clear hv4 ht4 HNEXT HADD d0 d1 d2 d3 d4
          go_wp2_with fail
          go_roundw
          case rel => exact ⟨j + 1, by omega, by go_num, HE⟩
          case measure => simp [intOf]; omega
        · obtain rfl : j = N := by omega
          obtain ⟨S, X, hvw, hbs, hown, hap, hch, hbw⟩ := ho.out
          rw [List.drop_eq_nil_of_le (by rw [HRV.out.1]; exact Nat.le_refl _)] at hch
          have hnil := hch.done hbs (tx [])
          have hok := hbs.scanOk (by omega)
          have HSC := Lib.hid (vScan_any hvw hok.wf hok.wk hok.cf hok.ck (A := none) (n := 0) (k := 0) (B := wr.heap.size) (l := []) RB.nil_ (Nat.le_refl _))
          rw [hnil] at HSC
          have HB := Lib.hid hbw
          clear hvw hbs hown hap hch hbw hnil hok ho
          go_wp2_with fail
          refine HSC.out.mono ?_
          rintro e w3 ⟨A3, n3, c3, rfl, hn3, hp3, hb3⟩
          obtain rfl : 0 = n3 := hp3.len
          have HB3 := Lib.hid (HB.out.trans (hb3.mono HB.out.size))
          clear hp3 hb3 HSC HB
          go_wp2_with fail
          refine (balAwake_any _).mono ?_
          rintro e w4 ⟨rfl, hb4⟩
          have HE := Lib.hid (HB3.out.trans (hb4.mono HB3.out.size))
          clear hb4 HB3
          go_wp2
          go_ret
          exact ⟨rfl, HE.out⟩
end Go.Proofs.YtihjlhegcoceoaaGreat
