/-
  Contract of bucket.read. Condition: a page of 240 bytes.
-/
import Derived.Test.YthpgcdfbngngjaaBkH
namespace Go.Proofs.Ythpgcdfbngngjaa
open Go.RowKit
set_option maxRecDepth 100000
set_option linter.unusedVariables false

/-- One pair more in the list of a bucket that is being read. -/
theorem bkPush_step {w0 X X2 w4 : World} {F : Nat → Prop} {base j c0 c' p0 p n0 cc0 : Nat} {d x d0 x0 : Int} {A0 A' AA0 : Option Addr} {m : List KV} {ka va : Option Addr} {kn kc vn vc : Nat} {y : KV} {vs : List Value}
    (hrow : KRow X F base (.slice A0 j c0) m) (hm : m.length = j) (hFlt : ∀ k, F k → k < X.heap.size) (h0 : BkBox X p0 d0 x0 AA0 n0 cc0) (hp : BkBox X p d x A0 j c0) (hF0 : F p0) (hFp : F p)
    (hu : KFar X F (.slice A0 j c0) ka kn kc y.1) (hu2 : KFar X F (.slice A0 j c0) va vn vc y.2)
    (hvs : X.ownsRow base 48 2 (.slice A0 j c0) m.length vs) (hvl : ∀ (i : Nat) (x : KV), m[i]? = some x → ∃ (ka : Option Addr) (kn kc : Nat) (va : Option Addr) (vn vc : Nat), vs[i * 2]? = some (.slice ka kn kc) ∧ vs[i * 2 + 1]? = some (.slice va vn vc) ∧ KFar X F (.slice A0 j c0) ka kn kc x.1 ∧ KFar X F (.slice A0 j c0) va vn vc x.2)
    (hX : Below X.heap.size X X2) (hb : Below w0.heap.size w0 X) (hbase : w0.heap.size ≤ base)
    (hown : w4.ownsRow base 48 2 (.slice A' (j + 1) c') (j + 1) (vs ++ [.slice ka kn kc, .slice va vn vc])) (hg : X2.grownBy w4 (Value.slice A0 j c0).ownBlock) (hl : (Value.slice A' (j + 1) c').ownBlock = (Value.slice A0 j c0).ownBlock ∨ (Value.slice A' (j + 1) c').ownBlock = some X2.heap.size) :
    KRow w4 F base (.slice A' (j + 1) c') (m ++ [y]) ∧ BkBox w4 p0 d0 x0 AA0 n0 cc0 ∧ BkBox w4 p d x A0 j c0 ∧ Below w0.heap.size w0 w4 := by
  subst hm
  have hl' : (Value.slice A' (m.length + 1) c').ownBlock = (Value.slice A0 m.length c0).ownBlock ∨ ∃ r, (Value.slice A' (m.length + 1) c').ownBlock = some r ∧ X.heap.size ≤ r := by
    rcases hl with q | q
    · exact .inl q
    · exact .inr ⟨_, q, hX.size⟩
  obtain ⟨q1, q2, q3⟩ := hrow.push hFlt hu hu2 hvs hvl hX hown hg hl'
  refine ⟨q1, (q3 _ h0.cells.2.2.2 (fun e => hrow.out _ e hF0)).trans h0, (q3 _ hp.cells.2.2.2 (fun e => hrow.out _ e hFp)).trans hp, ?_⟩
  exact (hb.trans (hX.mono hb.size)).grown hg (Nat.le_trans hb.size hX.size) (fun k hk => Nat.le_trans hbase (bkOwnAt hvs k hk).1)

/-- Pairs that stand in a world, and in each later one in which blocks that are not G's are as they were. -/
def Stays (w : World) (G : Nat → Prop) (A : Option Addr) (n : Nat) (ps : List KV) : Prop := ∀ W : World, w.heap.size ≤ W.heap.size → (∀ k, k < w.heap.size → ¬ G k → W.heap[k]? = w.heap[k]?) → RPairs W W.heap.size A n ps
theorem Stays.now {w : World} {G : Nat → Prop} {A : Option Addr} {n : Nat} {ps : List KV} (h : Stays w G A n ps) : RPairs w w.heap.size A n ps := h w (Nat.le_refl _) (fun _ _ _ => rfl)
theorem Stays.later {w w' : World} {G : Nat → Prop} {A : Option Addr} {n : Nat} {ps : List KV} (h : Stays w G A n ps) (hs : w.heap.size ≤ w'.heap.size) (hk : ∀ k, k < w.heap.size → ¬ G k → w'.heap[k]? = w.heap[k]?) : Stays w' G A n ps := fun W hW hkW => h W (Nat.le_trans hs hW) (fun k h1 h2 => (hkW k (Nat.lt_of_lt_of_le h1 hs) h2).trans (hk k h1 h2))
theorem Stays.below {w w' : World} {G : Nat → Prop} {A : Option Addr} {n : Nat} {ps : List KV} (h : Stays w G A n ps) (hb : Below w.heap.size w w') : Stays w' G A n ps := h.later hb.size (fun k hk _ => hb.block k hk)
theorem Stays.setCell {w : World} {G : Nat → Prop} {A : Option Addr} {n : Nat} {ps : List KV} (h : Stays w G A n ps) {p : Addr} (hp : G p.block) (u : Value) : Stays (w.setCell p u) G A n ps := h.later (by simp [World.setCell]) (fun k _ hf => Below.heap_setCell _ _ _ _ (fun e => hf (by rw [e]; exact hp)))
/-- The blocks of a bucket that is being read, and others. -/
def bkF (p : Nat) (G : Nat → Prop) : Nat → Prop := fun k => k = p ∨ k = p + 1 ∨ G k

/-- What is left when a page's pairs are read: the result's box is written over. -/
theorem bkRead_last {w0 W : World} {F : Nat → Prop} {base n c p : Nat} {d x : Int} {A : Option Addr} {l m : List KV} (hk : KRow W F base (.slice A n c) l) (hm : m = l) (h0 : BkBox W w0.heap.size 0 0 none 0 0) (hF : F w0.heap.size) (hb : Below w0.heap.size w0 W) (G : Nat → Prop) (hG : ∀ k, ¬ F k → ¬ G k) :
    BkBox (((W.setCell ⟨w0.heap.size, 0, none⟩ (.int .i64 d)).setCell ⟨w0.heap.size, 1, none⟩ (.int .i64 x)).setCell ⟨w0.heap.size, 2, none⟩ (.slice A n c)) w0.heap.size d x A n c ∧ n ≤ c ∧ Stays (((W.setCell ⟨w0.heap.size, 0, none⟩ (.int .i64 d)).setCell ⟨w0.heap.size, 1, none⟩ (.int .i64 x)).setCell ⟨w0.heap.size, 2, none⟩ (.slice A n c)) G A n m ∧ Below w0.heap.size w0 (((W.setCell ⟨w0.heap.size, 0, none⟩ (.int .i64 d)).setCell ⟨w0.heap.size, 1, none⟩ (.int .i64 x)).setCell ⟨w0.heap.size, 2, none⟩ (.slice A n c)) := by
  subst hm
  have hq := ((hk.setCell (p := ⟨w0.heap.size, 0, none⟩) hF (.int .i64 d)).setCell (p := ⟨w0.heap.size, 1, none⟩) hF (.int .i64 x)).setCell (p := ⟨w0.heap.size, 2, none⟩) hF (.slice A n c)
  obtain ⟨q1, q2, q3⟩ := hq.pairs
  exact ⟨h0.store, q2, fun W' hs hk' => (hq.keep (F' := G) hs (fun k _ h => hG k h) (fun k h1 h2 => hk' k h1 (hG k h2))).pairs.2.2, ((hb.setCell (p := ⟨w0.heap.size, 0, none⟩) (Nat.le_refl _) _).setCell (p := ⟨w0.heap.size, 1, none⟩) (Nat.le_refl _) _).setCell (p := ⟨w0.heap.size, 2, none⟩) (Nat.le_refl _) _⟩

set_option maxHeartbeats 6400000 in
theorem bkRead_any {w : World} {B n c : Nat} {A : Option Addr} {l : List Int} (hr : RB w B A n l) (hB : B ≤ w.heap.size) (hn : n = 240) (hc : n ≤ c) (G : Nat → Prop) (hG : ∀ k, G k → k < w.heap.size) (hAG : ∀ x, A = some x → ¬ G x.block) :
    Calls Try.prog 39 #[.slice A n c] w fun e w' => ∃ A' n' c', e = .returned (.agg #[.int .i64 (readBk l).d, .int .i64 (readBk l).x, .slice A' n' c']) ∧ n' ≤ c' ∧ Stays w' G A' n' (readBk l).ps ∧ Below w.heap.size w w' := by
  have hX1 : Below w.heap.size w (w.alloc (BkObj 0 0 none 0 0)) := (Below.refl _ _).alloc (Nat.le_refl _) _
  have HG := Lib.hid (fun (W : World) (hW : Below w.heap.size w W) (a s : Int) => bkNumber_any a s (hr.below (hW.mono hB)) hc (by subst hn; decide))
  have HC1 := Lib.hid (fun (W : World) (hW : Below w.heap.size w W) (a : Nat) (ha : a ≤ 240) (he : 240 < cutE l a) => bkCut_beyond a (hr.below (hW.mono hB)) (Nat.le_trans hB hW.size) hn hc ha he)
  have HC2 := Lib.hid (fun (W : World) (hW : Below w.heap.size w W) (a : Nat) (he : ¬ 240 < cutE l a) => bkCut_within a (hr.below (hW.mono hB)) (Nat.le_trans hB hW.size) hn hc he)
  have HBN := Lib.hid (And.intro (getR_int hr.bytes 1 1) (And.intro (getR_int hr.bytes 2 4) (getR_int hr.bytes 6 2)))
  have HKB := Lib.hid (fun a => And.intro (kN_eq hr.bytes a).1 (vN_eq hr.bytes a).1)
  have HPB := Lib.hid (fun (W : World) (hW : Below w.heap.size w W) => hr.below (hW.mono hB))
  have HD : Hid ((readBk l).d = (getR l 1 1).1 ∧ (readBk l).x = (getR l 2 4).1 ∧ (readBk l).ps = cutsL l ((getR l 6 2).1).toNat 8) := Lib.hid ⟨rfl, rfl, rfl⟩
  have hbx0 := BkBox.new w 0 0 none 0 0
  have HX1 := Lib.hid hX1
  have hs1 : (w.alloc (BkObj 0 0 none 0 0)).heap.size = w.heap.size + 1 := by simp
  have hG1 := Lib.hid (HG.out _ hX1 1 1)
  have hG2 := Lib.hid (HG.out _ hX1 2 4)
  have hbx1 := BkBox.new (w.alloc (BkObj 0 0 none 0 0)) (getR l 1 1).1 (getR l 2 4).1 none 0 0
  have hX2 : Below (w.alloc (BkObj 0 0 none 0 0)).heap.size (w.alloc (BkObj 0 0 none 0 0)) ((w.alloc (BkObj 0 0 none 0 0)).alloc (BkObj (getR l 1 1).1 (getR l 2 4).1 none 0 0)) := (Below.refl _ _).alloc (Nat.le_refl _) _
  rw [hs1] at hbx1
  have HX2 := Lib.hid (And.intro (hbx0.below hX2) (And.intro hbx1 (hX1.trans (hX2.mono hX1.size))))
  have hG3 := Lib.hid (HG.out _ HX2.out.2.2 6 2)
  clear hr hX1 hbx0 hbx1 hX2 HX1
  obtain ⟨⟨b1, b2⟩, ⟨b3, b4⟩, ⟨b5, b6⟩⟩ := HBN.out
  subst hn
  generalize (getR l 1 1).1 = D0 at *
  generalize (getR l 2 4).1 = X0 at *
  generalize (getR l 6 2).1 = C0 at *
  clear HBN HG
  unfold BkObj at *
  go_enter Try.func39, Try.ntmps39
  go_wp2_with fail
  refine hG1.out.mono ?_
  rintro e w' ⟨rfl, rfl⟩
  go_wp2_with fail
  refine hG2.out.mono ?_
  rintro e w' ⟨rfl, rfl⟩
  go_wp2_with fail
  refine hG3.out.mono ?_
  rintro e w' ⟨rfl, rfl⟩
  go_wp2_with fail
  obtain ⟨N, hN⟩ : ∃ N, C0.toNat = N := ⟨_, rfl⟩
  have HN := Lib.hid hN
  have HPS : Hid ((readBk l).ps = cutsL l N 8) := Lib.hid (by rw [← hN]; exact HD.out.2.2)
  clear hG1 hG2 hG3 hN
  go_loopw [3, 22] (fun av i wr => ∃ (j a : Nat) (A0 : Option Addr) (c0 : Nat) (m : List KV), j ≤ N ∧ a ≤ 240 ∧ i = .int .i64 j ∧ av = .int .i64 a ∧ 2 * j ≤ a ∧ Hid (m.length = j) ∧ Hid (cutsL l N 8 = m ++ cutsL l (N - j) a) ∧ Hid (KRow wr (bkF w.heap.size G) (w.heap.size + 2) (.slice A0 j c0) m) ∧ Hid (BkBox wr w.heap.size 0 0 none 0 0 ∧ BkBox wr (w.heap.size + 1) D0 X0 A0 j c0 ∧ Below w.heap.size w wr)) (fun _ i _ => N - (intOf i).toNat)
  case atStart => exact ⟨0, 8, none, 0, [], Nat.zero_le _, by decide, rfl, rfl, by decide, Lib.hid rfl, Lib.hid rfl, Lib.hid (KRow.start _ _ _), HX2⟩
  case round =>
    clear HX2
    obtain ⟨j, a, A0, c0, m, hj, ha, rfl, rfl, hja, hml, hcuts, hrow, hbxs⟩ := hrel
    by_cases hlt : j < N
    · have hlt' : (j : Int) < C0 := by have := HN.out; omega
      by_cases he : 240 < cutE l a
      · have HC := Lib.hid (HC1.out _ hbxs.out.2.2 a ha he)
        have hme := Lib.hid (show (readBk l).ps = m from by rw [HPS.out, hcuts.out, cutsL_stop he, List.append_nil])
        have he' : 240 < (cutE l a : Int) := by omega
        have HCE := Lib.hid (show cutE l a ≤ 1000 from by have := HKB.out a; unfold cutE; omega)
        have hce := HCE.out
        clear he
        generalize cutE l a = E at HC he' hce
        go_wp2_with fail
        refine HC.out.mono ?_
        rintro e w1 ⟨rfl, hb1⟩
        have hX : Below w1.heap.size w1 (w1.alloc (.cells #[.slice none 0 0, .slice none 0 0] 48 (0, 0))) := (Below.refl _ _).alloc (Nat.le_refl _) _
        have hbX := hb1.trans (hX.mono hb1.size)
        have hb0 := hbxs.out.1.below hbX
        have hbp := hbxs.out.2.1.below hbX
        have HEND := Lib.hid (bkRead_last (p := 0) (d := D0) (x := X0) (hrow.out.below hbX) hme.out hb0 (.inl rfl) (hbxs.out.2.2.trans (hbX.mono hbxs.out.2.2.size)) G (fun k h1 h2 => h1 (.inr (.inr h2))))
        have f0 := hb0.frozen 0
        have f1 := hb0.frozen 1
        have f2 := hb0.frozen 2
        obtain ⟨z0, z1, z2, _⟩ := hb0.cells
        obtain ⟨u0, u1, u2, _⟩ := hbp.cells
        clear hb1 hX hbX hb0 hbp hrow hbxs HC hcuts
        go_wp2
        generalize hXX : ((((w1.alloc (.cells #[.slice none 0 0, .slice none 0 0] 48 (0, 0))).setCell ⟨w.heap.size, 0, none⟩ (Value.int IntKind.i64 D0)).setCell ⟨w.heap.size, 1, none⟩ (Value.int IntKind.i64 X0)).setCell ⟨w.heap.size, 2, none⟩ (Value.slice A0 j c0)) = X at *
        obtain ⟨d0, d1, d2, _⟩ := HEND.out.1.cells
        refine bodyPost_ret (v := .agg #[.int .i64 D0, .int .i64 X0, .slice A0 j c0]) (by
          simp [results, Try.results39, go_sem, d0, d1, d2]) rfl ?_
        exact ⟨A0, j, c0, by rw [HD.out.1, HD.out.2.1], HEND.out.2.1, HEND.out.2.2.1, HEND.out.2.2.2⟩
      · have HC := Lib.hid (HC2.out _ hbxs.out.2.2 a he)
        have HNX := Lib.hid (show cutsL l N 8 = (m ++ [(cutK l a, cutV l a)]) ++ cutsL l (N - (j + 1)) (cutE l a) from by
          rw [hcuts.out, show N - j = (N - (j + 1)) + 1 by omega, cutsL_go he]
          simp)
        have hEa := Lib.hid (show 2 * (j + 1) ≤ cutE l a ∧ cutE l a ≤ 240 from by unfold cutE; unfold cutE at he; omega)
        have hkb := HKB.out a
        have he' : ¬ 240 < (cutE l a : Int) := by omega
        have hce : cutE l a ≤ 240 := by omega
        clear he
        generalize cutE l a = E at HC HNX hEa he' hce
        generalize cutK l a = K at HC HNX
        generalize cutV l a = V at HC HNX
        generalize kN l a = kn at HC hkb
        generalize vN l a = vn at HC hkb
        go_wp2_with fail
        refine HC.out.mono ?_
        rintro e w1 ⟨ka, va, rfl, rk, rv, hb1, hin⟩
        have hX : Below w1.heap.size w1 (w1.alloc (.cells #[.slice ka kn kn, .slice va vn vn] 48 (0, 0))) := (Below.refl _ _).alloc (Nat.le_refl _) _
        have hbX := hb1.trans (hX.mono hb1.size)
        have hb0 := hbxs.out.1.below hbX
        have hbp := hbxs.out.2.1.below hbX
        have hbw := hbxs.out.2.2.trans (hbX.mono hbxs.out.2.2.size)
        have hrowX := hrow.out.below hbX
        have h1 : 0 < 1 := Nat.one_pos
        have hX3 : Below (w1.alloc (.cells #[.slice ka kn kn, .slice va vn vn] 48 (0, 0))).heap.size (w1.alloc (.cells #[.slice ka kn kn, .slice va vn vn] 48 (0, 0))) ((w1.alloc (.cells #[.slice ka kn kn, .slice va vn vn] 48 (0, 0))).alloc (.cells #[.slice ka kn kn, .slice va vn vn] 48 (0, 0))) := (Below.refl _ _).alloc (Nat.le_refl _) _
        obtain ⟨vs, hvs, hvl⟩ := hrowX.row
        have hFar : ∀ {D : Option Addr} {q : Nat} {L : List Int}, RB wr B D q L → q < 256 → (∀ y, D = some y → ∃ x, A = some x ∧ y.block = x.block) → KFar (w1.alloc (.cells #[.slice ka kn kn, .slice va vn vn] 48 (0, 0))) (bkF w.heap.size G) (.slice A0 j c0) D q q L := fun {D q L} h hq hin => by
          refine ⟨Nat.le_refl _, by unfold maxLen; omega, ((h.below (hbX.mono (Nat.le_trans hB hbxs.out.2.2.size))).more (Nat.le_trans hB hbw.size)), fun x hx hq0 => ?_⟩
          obtain ⟨bb, o, e, hbb, _⟩ := h.at_ hq0
          rw [e] at hx
          cases hx
          refine ⟨fun hf => ?_, fun hf => ?_⟩
          · rcases hf with hf | hf | hf
            · have : bb = w.heap.size := hf
              omega
            · have : bb = w.heap.size + 1 := hf
              omega
            · obtain ⟨x, hx, hxb⟩ := hin _ e
              exact hAG x hx (by rw [← hxb]; exact hf)
          · have := (bkOwnAt hvs bb hf).1
            omega
        have hlen : (w1.alloc (.cells #[.slice ka kn kn, .slice va vn vn] 48 (0, 0))).heap.size = w1.heap.size + 1 := by simp
        have hpl := hbp.cells.2.2.2
        have HSTEP := Lib.hid (fun A' c' w4 => bkPush_step (w0 := w) (X2 := (w1.alloc (.cells #[.slice ka kn kn, .slice va vn vn] 48 (0, 0))).alloc (.cells #[.slice ka kn kn, .slice va vn vn] 48 (0, 0))) (w4 := w4) (A' := A') (c' := c') (y := (K, V)) hrowX hml.out (fun k hk => by
          rcases hk with rfl | rfl | hk
          · omega
          · omega
          · have := hG k hk; have := hbw.size; omega) hb0 hbp (.inl rfl) (.inr (.inl rfl)) (hFar rk hkb.1 (fun y hy => hin y (.inl hy))) (hFar rv hkb.2 (fun y hy => hin y (.inr hy))) hvs hvl hX3 hbw (by omega))
        have hownX := own_later hvs hX3
        rw [hml.out] at hownX
        obtain ⟨u0, u1, u2, _⟩ := hbp.cells
        obtain ⟨y0, y1⟩ := (PBox.new w1 (.slice ka kn kn) (.slice va vn vn)).cells
        have hsz3 : w.heap.size + 2 ≤ ((w1.alloc (.cells #[.slice ka kn kn, .slice va vn vn] 48 (0, 0))).alloc (.cells #[.slice ka kn kn, .slice va vn vn] 48 (0, 0))).heap.size := by have := hX3.size; omega
        have hblk3 : ((w1.alloc (.cells #[.slice ka kn kn, .slice va vn vn] 48 (0, 0))).alloc (.cells #[.slice ka kn kn, .slice va vn vn] 48 (0, 0))).heap[(w1.alloc (.cells #[.slice ka kn kn, .slice va vn vn] 48 (0, 0))).heap.size]? = some (.cells #[.slice ka kn kn, .slice va vn vn] 48) := heap_alloc_new _ _
        rw [hlen] at hblk3
        have hj63 : j ≤ 4294967296 := by omega
        clear hb0 hbp hbw hrowX hX hX3 hbX hb1 rk rv hFar hvl hvs HC hrow hbxs
        go_wp2_with (at_builtin; refine wpList_append_pair rfl _ _ rfl (w.heap.size + 2) (.slice A0 j c0) j vs rfl (w1.heap.size + 1) (.slice ka kn kn) (.slice va vn vn) 48 rfl hownX hblk3 rfl rfl hj63 hsz3 ?_; intro A4 c4 w4 hown4 hg4 hl4; have HS4 := Lib.hid (HSTEP.out A4 c4 w4 hown4 hg4 hl4); clear hown4 hg4 hl4 hownX hblk3 hsz3 hlen HSTEP; have f2 := HS4.out.2.2.1.frozen 2; have z2 := HS4.out.2.2.1.cells.2.2.1)
        go_roundw
        case rel => exact ⟨j + 1, E, A4, c4, m ++ [(K, V)], by omega, hce, by go_num, rfl, hEa.out.1, Lib.hid (by rw [List.length_append, hml.out]; rfl), HNX, Lib.hid (HS4.out.1.setCell (p := ⟨w.heap.size + 1, 2, none⟩) (.inr (.inl rfl)) _), Lib.hid ⟨HS4.out.2.1.apart (by omega), HS4.out.2.2.1.set2, HS4.out.2.2.2.setCell (p := ⟨w.heap.size + 1, 2, none⟩) (by show _ ≤ w.heap.size + 1; omega) _⟩⟩
        case measure => simp [intOf]; omega
    · have hlt' : ¬ (j : Int) < C0 := by have := HN.out; omega
      obtain rfl : j = N := by omega
      have hme := Lib.hid (show (readBk l).ps = m from by rw [HPS.out, hcuts.out, Nat.sub_self, cutsL_zero, List.append_nil])
      have hb0 := hbxs.out.1
      have HEND := Lib.hid (bkRead_last (p := 0) (d := D0) (x := X0) hrow.out hme.out hb0 (.inl rfl) hbxs.out.2.2 G (fun k h1 h2 => h1 (.inr (.inr h2))))
      have f0 := hb0.frozen 0
      have f1 := hb0.frozen 1
      have f2 := hb0.frozen 2
      obtain ⟨z0, z1, z2, _⟩ := hb0.cells
      obtain ⟨u0, u1, u2, _⟩ := hbxs.out.2.1.cells
      clear hb0 hrow hbxs hcuts
      go_wp2
      generalize hXX : (((wr.setCell ⟨w.heap.size, 0, none⟩ (Value.int IntKind.i64 D0)).setCell ⟨w.heap.size, 1, none⟩ (Value.int IntKind.i64 X0)).setCell ⟨w.heap.size, 2, none⟩ (Value.slice A0 j c0)) = X at *
      obtain ⟨d0, d1, d2, _⟩ := HEND.out.1.cells
      refine bodyPost_ret (v := .agg #[.int .i64 D0, .int .i64 X0, .slice A0 j c0]) (by
        simp [results, Try.results39, go_sem, d0, d1, d2]) rfl ?_
      exact ⟨A0, j, c0, by rw [HD.out.1, HD.out.2.1], HEND.out.2.1, HEND.out.2.2.1, HEND.out.2.2.2⟩
end Go.Proofs.Ythpgcdfbngngjaa
