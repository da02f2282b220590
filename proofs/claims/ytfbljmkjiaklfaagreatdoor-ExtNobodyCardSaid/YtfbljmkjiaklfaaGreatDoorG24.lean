/-
  The texts BkI, BkJ, ExtE, Gen joined. Conditions: those that each part says at its head.
-/
import Derived.Test.YtfbljmkjiaklfaaGreatDoorG23
import Derived.Test.YtfbljmkjiaklfaaGreatDoorG11
import Derived.Test.YtfbljmkjiaklfaaGreatDoorG1
import Derived.Maps.AppendAt
import Derived.Deep.AppendLies

/-
  Contract of bucket.read. Condition: a page of 240 bytes.
-/
namespace Go.Proofs.YtfbljmkjiaklfaaGreatDoor
open Go.RowKit
set_option maxRecDepth 100000
set_option linter.unusedVariables false

/-- One pair more in the list of a bucket that is being read. -/
theorem bkPush_step {w0 X X2 w4 : World} {F : Nat → Prop} {base j c0 c' p0 p n0 cc0 : Nat} {d x d0 x0 : Int} {A0 A' AA0 : Option Addr} {m : List KV} {ka va : Option Addr} {kn kc vn vc : Nat} {y : KV} {vs : List Value}
    (hrow : KRow X F base (.slice A0 j c0) m) (hm : m.length = j) (hFlt : ∀ k, F k → k < X.heap.size) (h0 : BkBox X p0 d0 x0 AA0 n0 cc0) (hp : BkBox X p d x A0 j c0) (hF0 : F p0) (hFp : F p)
    (hu : KFar X F (.slice A0 j c0) ka kn kc y.1) (hu2 : KFar X F (.slice A0 j c0) va vn vc y.2)
    (hvs : X.ownsRow base 88 2 (.slice A0 j c0) m.length vs) (hvl : ∀ (i : Nat) (x : KV), m[i]? = some x → ∃ (ka : Option Addr) (kn kc : Nat) (va : Option Addr) (vn vc : Nat), vs[i * 2]? = some (.slice ka kn kc) ∧ vs[i * 2 + 1]? = some (.slice va vn vc) ∧ KFar X F (.slice A0 j c0) ka kn kc x.1 ∧ KFar X F (.slice A0 j c0) va vn vc x.2)
    (hX : Below X.heap.size X X2) (hb : Below w0.heap.size w0 X) (hbase : w0.heap.size ≤ base)
    (hown : w4.ownsRow base 88 2 (.slice A' (j + 1) c') (j + 1) (vs ++ [.slice ka kn kc, .slice va vn vc])) (hg : X2.grownBy w4 (Value.slice A0 j c0).ownBlock) (hl : (Value.slice A' (j + 1) c').ownBlock = (Value.slice A0 j c0).ownBlock ∨ (Value.slice A' (j + 1) c').ownBlock = some X2.heap.size) :
    KRow w4 F base (.slice A' (j + 1) c') (m ++ [y]) ∧ BkBox w4 p0 d0 x0 AA0 n0 cc0 ∧ BkBox w4 p d x A0 j c0 ∧ Below w0.heap.size w0 w4 := by
  subst hm
  have hl' : (Value.slice A' (m.length + 1) c').ownBlock = (Value.slice A0 m.length c0).ownBlock ∨ ∃ r, (Value.slice A' (m.length + 1) c').ownBlock = some r ∧ X.heap.size ≤ r := by
    rcases hl with q | q
    · exact .inl q
    · exact .inr ⟨_, q, hX.size⟩
  obtain ⟨q1, q2, q3⟩ := hrow.push hFlt hu hu2 hvs hvl hX hown hg hl'
  refine ⟨q1, (q3 _ h0.cells.2.2.2 (fun e => hrow.out _ e hF0)).trans h0, (q3 _ hp.cells.2.2.2 (fun e => hrow.out _ e hFp)).trans hp, ?_⟩
  exact (hb.trans (hX.mono hb.size)).grown hg (Nat.le_trans hb.size hX.size) (fun k hk => Nat.le_trans hbase (bkOwnAt hvs k hk).1)

/-- Pairs that stand in a world, and in each later one in which blocks that are not G's are as they were. -/
def Stays (w : World) (G : Nat → Prop) (A : Option Addr) (n : Nat) (ps : List KV) : Prop := ∀ W : World, w.heap.size ≤ W.heap.size → (∀ k, k < w.heap.size → ¬ G k → W.heap[k]? = w.heap[k]?) → RPairs W W.heap.size A n ps
theorem Stays.now {w : World} {G : Nat → Prop} {A : Option Addr} {n : Nat} {ps : List KV} (h : Stays w G A n ps) : RPairs w w.heap.size A n ps := h w (Nat.le_refl _) (fun _ _ _ => rfl)
theorem Stays.later {w w' : World} {G : Nat → Prop} {A : Option Addr} {n : Nat} {ps : List KV} (h : Stays w G A n ps) (hs : w.heap.size ≤ w'.heap.size) (hk : ∀ k, k < w.heap.size → ¬ G k → w'.heap[k]? = w.heap[k]?) : Stays w' G A n ps := fun W hW hkW => h W (Nat.le_trans hs hW) (fun k h1 h2 => (hkW k (Nat.lt_of_lt_of_le h1 hs) h2).trans (hk k h1 h2))
theorem Stays.below {w w' : World} {G : Nat → Prop} {A : Option Addr} {n : Nat} {ps : List KV} (h : Stays w G A n ps) (hb : Below w.heap.size w w') : Stays w' G A n ps := h.later hb.size (fun k hk _ => hb.block k hk)
theorem Stays.setCell {w : World} {G : Nat → Prop} {A : Option Addr} {n : Nat} {ps : List KV} (h : Stays w G A n ps) {p : Addr} (hp : G p.block) (u : Value) : Stays (w.setCell p u) G A n ps := h.later (by simp [World.setCell]) (fun k _ hf => Below.heap_setCell _ _ _ _ (fun e => hf (by rw [e]; exact hp)))
/-- The blocks of a bucket that is being read, and others. -/
def bkF (p : Nat) (G : Nat → Prop) : Nat → Prop := fun k => k = p ∨ k = p + 1 ∨ G k

/-- What is left when a page's pairs are read: the result's box is written over. -/
theorem bkRead_last {w0 W : World} {F : Nat → Prop} {base n c p : Nat} {d x : Int} {A : Option Addr} {l m : List KV} (hk : KRow W F base (.slice A n c) l) (hm : m = l) (h0 : BkBox W w0.heap.size 0 0 none 0 0) (hF : F w0.heap.size) (hb : Below w0.heap.size w0 W) (G : Nat → Prop) (hG : ∀ k, ¬ F k → ¬ G k) :
    BkBox (((W.setCell ⟨w0.heap.size, 0, none⟩ (.int .i64 d)).setCell ⟨w0.heap.size, 1, none⟩ (.int .i64 x)).setCell ⟨w0.heap.size, 2, none⟩ (.slice A n c)) w0.heap.size d x A n c ∧ n ≤ c ∧ Stays (((W.setCell ⟨w0.heap.size, 0, none⟩ (.int .i64 d)).setCell ⟨w0.heap.size, 1, none⟩ (.int .i64 x)).setCell ⟨w0.heap.size, 2, none⟩ (.slice A n c)) G A n m ∧ Below w0.heap.size w0 (((W.setCell ⟨w0.heap.size, 0, none⟩ (.int .i64 d)).setCell ⟨w0.heap.size, 1, none⟩ (.int .i64 x)).setCell ⟨w0.heap.size, 2, none⟩ (.slice A n c)) := by
  subst hm
  have hq := ((hk.setCell (p := ⟨w0.heap.size, 0, none⟩) hF (.int .i64 d)).setCell (p := ⟨w0.heap.size, 1, none⟩) hF (.int .i64 x)).setCell (p := ⟨w0.heap.size, 2, none⟩) hF (.slice A n c)
  obtain ⟨q1, q2, q3⟩ := hq.pairs
  exact ⟨h0.store, q2, fun W' hs hk' => (hq.keep (F' := G) hs (fun k _ h => hG k h) (fun k h1 h2 => hk' k h1 (hG k h2))).pairs.2.2, ((hb.setCell (p := ⟨w0.heap.size, 0, none⟩) (Nat.le_refl _) _).setCell (p := ⟨w0.heap.size, 1, none⟩) (Nat.le_refl _) _).setCell (p := ⟨w0.heap.size, 2, none⟩) (Nat.le_refl _) _⟩

set_option maxHeartbeats 6400000 in
theorem bkRead_any {w : World} {B n c : Nat} {A : Option Addr} {l : List Int} (hr : RB w B A n l) (hB : B ≤ w.heap.size) (hn : n = 240) (hc : n ≤ c) (G : Nat → Prop) (hG : ∀ k, G k → k < w.heap.size) (hAG : ∀ x, A = some x → ¬ G x.block) :
    Calls Tryz.prog 188 #[.slice A n c] w fun e w' => ∃ A' n' c', e = .returned (.agg #[.int .i64 (readBk l).d, .int .i64 (readBk l).x, .slice A' n' c']) ∧ n' ≤ c' ∧ Stays w' G A' n' (readBk l).ps ∧ Below w.heap.size w w' := by
  have hX1 : Below w.heap.size w (w.alloc (BkObj 0 0 none 0 0)) := (Below.refl _ _).alloc (Nat.le_refl _) _
  have HG := Lib.hid (fun (W : World) (hW : Below w.heap.size w W) (a s : Int) => bkNumber_any a s (hr.below (hW.mono hB)) hc (by subst hn; decide))
  have HC1 := Lib.hid (fun (W : World) (hW : Below w.heap.size w W) (a : Nat) (ha : a ≤ 240) (he : 240 < cutE l a) => bkCut_beyond a (hr.below (hW.mono hB)) (Nat.le_trans hB hW.size) hn hc ha he)
  have HC2 := Lib.hid (fun (W : World) (hW : Below w.heap.size w W) (a : Nat) (he : ¬ 240 < cutE l a) => bkCut_within a (hr.below (hW.mono hB)) (Nat.le_trans hB hW.size) hn hc he)
  have HBN := Lib.hid (And.intro (getR_int hr.bytes 1 1) (And.intro (getR_int hr.bytes 2 4) (getR_int hr.bytes 6 2)))
  have HKB := Lib.hid (fun a => And.intro (kN_eq hr.bytes a).1 (vN_eq hr.bytes a).1)
  have HPB := Lib.hid (fun (W : World) (hW : Below w.heap.size w W) => hr.below (hW.mono hB))
  have HD : Hid ((readBk l).d = (getR l 1 1).1 ∧ (readBk l).x = (getR l 2 4).1 ∧ (readBk l).ps = cutsL l ((getR l 6 2).1).toNat 8) := Lib.hid ⟨rfl, rfl, rfl⟩
  have hbx0 := BkBox.new w 0 0 none 0 0
  have HX1 := Lib.hid hX1
  have hs1 : (w.alloc (BkObj 0 0 none 0 0)).heap.size = w.heap.size + 1 := by simp
  have hG1 := Lib.hid (HG.out _ hX1 1 1)
  have hG2 := Lib.hid (HG.out _ hX1 2 4)
  have hbx1 := BkBox.new (w.alloc (BkObj 0 0 none 0 0)) (getR l 1 1).1 (getR l 2 4).1 none 0 0
  have hX2 : Below (w.alloc (BkObj 0 0 none 0 0)).heap.size (w.alloc (BkObj 0 0 none 0 0)) ((w.alloc (BkObj 0 0 none 0 0)).alloc (BkObj (getR l 1 1).1 (getR l 2 4).1 none 0 0)) := (Below.refl _ _).alloc (Nat.le_refl _) _
  rw [hs1] at hbx1
  have HX2 := Lib.hid (And.intro (hbx0.below hX2) (And.intro hbx1 (hX1.trans (hX2.mono hX1.size))))
  have hG3 := Lib.hid (HG.out _ HX2.out.2.2 6 2)
  clear hr hX1 hbx0 hbx1 hX2 HX1
  obtain ⟨⟨b1, b2⟩, ⟨b3, b4⟩, ⟨b5, b6⟩⟩ := HBN.out
  subst hn
  generalize (getR l 1 1).1 = D0 at *
  generalize (getR l 2 4).1 = X0 at *
  generalize (getR l 6 2).1 = C0 at *
  clear HBN HG
  unfold BkObj at *
  go_enter Tryz.func188, Tryz.ntmps188
  go_wp2_with fail
  refine hG1.out.mono ?_
  rintro e w' ⟨rfl, rfl⟩
  go_wp2_with fail
  refine hG2.out.mono ?_
  rintro e w' ⟨rfl, rfl⟩
  go_wp2_with fail
  refine hG3.out.mono ?_
  rintro e w' ⟨rfl, rfl⟩
  go_wp2_with fail
  obtain ⟨N, hN⟩ : ∃ N, C0.toNat = N := ⟨_, rfl⟩
  have HN := Lib.hid hN
  have HPS : Hid ((readBk l).ps = cutsL l N 8) := Lib.hid (by rw [← hN]; exact HD.out.2.2)
  clear hG1 hG2 hG3 hN
  go_loopw [3, 22] (fun av i wr => ∃ (j a : Nat) (A0 : Option Addr) (c0 : Nat) (m : List KV), j ≤ N ∧ a ≤ 240 ∧ i = .int .i64 j ∧ av = .int .i64 a ∧ 2 * j ≤ a ∧ Hid (m.length = j) ∧ Hid (cutsL l N 8 = m ++ cutsL l (N - j) a) ∧ Hid (KRow wr (bkF w.heap.size G) (w.heap.size + 2) (.slice A0 j c0) m) ∧ Hid (BkBox wr w.heap.size 0 0 none 0 0 ∧ BkBox wr (w.heap.size + 1) D0 X0 A0 j c0 ∧ Below w.heap.size w wr)) (fun _ i _ => N - (intOf i).toNat)
  case atStart => exact ⟨0, 8, none, 0, [], Nat.zero_le _, by decide, rfl, rfl, by decide, Lib.hid rfl, Lib.hid rfl, Lib.hid (KRow.start _ _ _), HX2⟩
  case round =>
    clear HX2
    obtain ⟨j, a, A0, c0, m, hj, ha, rfl, rfl, hja, hml, hcuts, hrow, hbxs⟩ := hrel
    by_cases hlt : j < N
    · have hlt' : (j : Int) < C0 := by have := HN.out; omega
      by_cases he : 240 < cutE l a
      · have HC := Lib.hid (HC1.out _ hbxs.out.2.2 a ha he)
        have hme := Lib.hid (show (readBk l).ps = m from by rw [HPS.out, hcuts.out, cutsL_stop he, List.append_nil])
        have he' : 240 < (cutE l a : Int) := by omega
        have HCE := Lib.hid (show cutE l a ≤ 1000 from by have := HKB.out a; unfold cutE; omega)
        have hce := HCE.out
        clear he
        generalize cutE l a = E at HC he' hce
        go_wp2_with fail
        refine HC.out.mono ?_
        rintro e w1 ⟨rfl, hb1⟩
        have hX : Below w1.heap.size w1 (w1.alloc (.cells #[.slice none 0 0, .slice none 0 0] 88 (0, 0))) := (Below.refl _ _).alloc (Nat.le_refl _) _
        have hbX := hb1.trans (hX.mono hb1.size)
        have hb0 := hbxs.out.1.below hbX
        have hbp := hbxs.out.2.1.below hbX
        have HEND := Lib.hid (bkRead_last (p := 0) (d := D0) (x := X0) (hrow.out.below hbX) hme.out hb0 (.inl rfl) (hbxs.out.2.2.trans (hbX.mono hbxs.out.2.2.size)) G (fun k h1 h2 => h1 (.inr (.inr h2))))
        have f0 := hb0.frozen 0
        have f1 := hb0.frozen 1
        have f2 := hb0.frozen 2
        obtain ⟨z0, z1, z2, _⟩ := hb0.cells
        obtain ⟨u0, u1, u2, _⟩ := hbp.cells
        clear hb1 hX hbX hb0 hbp hrow hbxs HC hcuts
        go_wp2
        generalize hXX : ((((w1.alloc (.cells #[.slice none 0 0, .slice none 0 0] 88 (0, 0))).setCell ⟨w.heap.size, 0, none⟩ (Value.int IntKind.i64 D0)).setCell ⟨w.heap.size, 1, none⟩ (Value.int IntKind.i64 X0)).setCell ⟨w.heap.size, 2, none⟩ (Value.slice A0 j c0)) = X at *
        obtain ⟨d0, d1, d2, _⟩ := HEND.out.1.cells
        refine bodyPost_ret (v := .agg #[.int .i64 D0, .int .i64 X0, .slice A0 j c0]) (by
          simp [results, Tryz.results188, go_sem, d0, d1, d2]) rfl ?_
        exact ⟨A0, j, c0, by rw [HD.out.1, HD.out.2.1], HEND.out.2.1, HEND.out.2.2.1, HEND.out.2.2.2⟩
      · have HC := Lib.hid (HC2.out _ hbxs.out.2.2 a he)
        have HNX := Lib.hid (show cutsL l N 8 = (m ++ [(cutK l a, cutV l a)]) ++ cutsL l (N - (j + 1)) (cutE l a) from by
          rw [hcuts.out, show N - j = (N - (j + 1)) + 1 by omega, cutsL_go he]
          simp)
        have hEa := Lib.hid (show 2 * (j + 1) ≤ cutE l a ∧ cutE l a ≤ 240 from by unfold cutE; unfold cutE at he; omega)
        have hkb := HKB.out a
        have he' : ¬ 240 < (cutE l a : Int) := by omega
        have hce : cutE l a ≤ 240 := by omega
        clear he
        generalize cutE l a = E at HC HNX hEa he' hce
        generalize cutK l a = K at HC HNX
        generalize cutV l a = V at HC HNX
        generalize kN l a = kn at HC hkb
        generalize vN l a = vn at HC hkb
        go_wp2_with fail
        refine HC.out.mono ?_
        rintro e w1 ⟨ka, va, rfl, rk, rv, hb1, hin⟩
        have hX : Below w1.heap.size w1 (w1.alloc (.cells #[.slice ka kn kn, .slice va vn vn] 88 (0, 0))) := (Below.refl _ _).alloc (Nat.le_refl _) _
        have hbX := hb1.trans (hX.mono hb1.size)
        have hb0 := hbxs.out.1.below hbX
        have hbp := hbxs.out.2.1.below hbX
        have hbw := hbxs.out.2.2.trans (hbX.mono hbxs.out.2.2.size)
        have hrowX := hrow.out.below hbX
        have h1 : 0 < 1 := Nat.one_pos
        have hX3 : Below (w1.alloc (.cells #[.slice ka kn kn, .slice va vn vn] 88 (0, 0))).heap.size (w1.alloc (.cells #[.slice ka kn kn, .slice va vn vn] 88 (0, 0))) ((w1.alloc (.cells #[.slice ka kn kn, .slice va vn vn] 88 (0, 0))).alloc (.cells #[.slice ka kn kn, .slice va vn vn] 88 (0, 0))) := (Below.refl _ _).alloc (Nat.le_refl _) _
        obtain ⟨vs, hvs, hvl⟩ := hrowX.row
        have hFar : ∀ {D : Option Addr} {q : Nat} {L : List Int}, RB wr B D q L → q < 256 → (∀ y, D = some y → ∃ x, A = some x ∧ y.block = x.block) → KFar (w1.alloc (.cells #[.slice ka kn kn, .slice va vn vn] 88 (0, 0))) (bkF w.heap.size G) (.slice A0 j c0) D q q L := fun {D q L} h hq hin => by
          refine ⟨Nat.le_refl _, by unfold maxLen; omega, ((h.below (hbX.mono (Nat.le_trans hB hbxs.out.2.2.size))).more (Nat.le_trans hB hbw.size)), fun x hx hq0 => ?_⟩
          obtain ⟨bb, o, e, hbb, _⟩ := h.at_ hq0
          rw [e] at hx
          cases hx
          refine ⟨fun hf => ?_, fun hf => ?_⟩
          · rcases hf with hf | hf | hf
            · have : bb = w.heap.size := hf
              omega
            · have : bb = w.heap.size + 1 := hf
              omega
            · obtain ⟨x, hx, hxb⟩ := hin _ e
              exact hAG x hx (by rw [← hxb]; exact hf)
          · have := (bkOwnAt hvs bb hf).1
            omega
        have hlen : (w1.alloc (.cells #[.slice ka kn kn, .slice va vn vn] 88 (0, 0))).heap.size = w1.heap.size + 1 := by simp
        have hpl := hbp.cells.2.2.2
        have HSTEP := Lib.hid (fun A' c' w4 => bkPush_step (w0 := w) (X2 := (w1.alloc (.cells #[.slice ka kn kn, .slice va vn vn] 88 (0, 0))).alloc (.cells #[.slice ka kn kn, .slice va vn vn] 88 (0, 0))) (w4 := w4) (A' := A') (c' := c') (y := (K, V)) hrowX hml.out (fun k hk => by
          rcases hk with rfl | rfl | hk
          · omega
          · omega
          · have := hG k hk; have := hbw.size; omega) hb0 hbp (.inl rfl) (.inr (.inl rfl)) (hFar rk hkb.1 (fun y hy => hin y (.inl hy))) (hFar rv hkb.2 (fun y hy => hin y (.inr hy))) hvs hvl hX3 hbw (by omega))
        have hownX := own_later hvs hX3
        rw [hml.out] at hownX
        obtain ⟨u0, u1, u2, _⟩ := hbp.cells
        obtain ⟨y0, y1⟩ := (PBox.new w1 (.slice ka kn kn) (.slice va vn vn)).cells
        have hsz3 : w.heap.size + 2 ≤ ((w1.alloc (.cells #[.slice ka kn kn, .slice va vn vn] 88 (0, 0))).alloc (.cells #[.slice ka kn kn, .slice va vn vn] 88 (0, 0))).heap.size := by have := hX3.size; omega
        have hblk3 : ((w1.alloc (.cells #[.slice ka kn kn, .slice va vn vn] 88 (0, 0))).alloc (.cells #[.slice ka kn kn, .slice va vn vn] 88 (0, 0))).heap[(w1.alloc (.cells #[.slice ka kn kn, .slice va vn vn] 88 (0, 0))).heap.size]? = some (.cells #[.slice ka kn kn, .slice va vn vn] 88) := heap_alloc_new _ _
        rw [hlen] at hblk3
        have hj63 : j ≤ 4294967296 := by omega
        clear hb0 hbp hbw hrowX hX hX3 hbX hb1 rk rv hFar hvl hvs HC hrow hbxs
        go_wp2_with (at_builtin; refine wpList_append_pair rfl _ _ rfl (w.heap.size + 2) (.slice A0 j c0) j vs rfl (w1.heap.size + 1) (.slice ka kn kn) (.slice va vn vn) 88 rfl hownX hblk3 rfl rfl hj63 hsz3 ?_; intro A4 c4 w4 hown4 hg4 hl4; have HS4 := Lib.hid (HSTEP.out A4 c4 w4 hown4 hg4 hl4); clear hown4 hg4 hl4 hownX hblk3 hsz3 hlen HSTEP; have f2 := HS4.out.2.2.1.frozen 2; have z2 := HS4.out.2.2.1.cells.2.2.1)
        go_roundw
        case rel => exact ⟨j + 1, E, A4, c4, m ++ [(K, V)], by omega, hce, by go_num, rfl, hEa.out.1, Lib.hid (by rw [List.length_append, hml.out]; rfl), HNX, Lib.hid (HS4.out.1.setCell (p := ⟨w.heap.size + 1, 2, none⟩) (.inr (.inl rfl)) _), Lib.hid ⟨HS4.out.2.1.apart (by omega), HS4.out.2.2.1.set2, HS4.out.2.2.2.setCell (p := ⟨w.heap.size + 1, 2, none⟩) (by show _ ≤ w.heap.size + 1; omega) _⟩⟩
        case measure => simp [intOf]; omega
    · have hlt' : ¬ (j : Int) < C0 := by have := HN.out; omega
      obtain rfl : j = N := by omega
      have hme := Lib.hid (show (readBk l).ps = m from by rw [HPS.out, hcuts.out, Nat.sub_self, cutsL_zero, List.append_nil])
      have hb0 := hbxs.out.1
      have HEND := Lib.hid (bkRead_last (p := 0) (d := D0) (x := X0) hrow.out hme.out hb0 (.inl rfl) hbxs.out.2.2 G (fun k h1 h2 => h1 (.inr (.inr h2))))
      have f0 := hb0.frozen 0
      have f1 := hb0.frozen 1
      have f2 := hb0.frozen 2
      obtain ⟨z0, z1, z2, _⟩ := hb0.cells
      obtain ⟨u0, u1, u2, _⟩ := hbxs.out.2.1.cells
      clear hb0 hrow hbxs hcuts
      go_wp2
      generalize hXX : (((wr.setCell ⟨w.heap.size, 0, none⟩ (Value.int IntKind.i64 D0)).setCell ⟨w.heap.size, 1, none⟩ (Value.int IntKind.i64 X0)).setCell ⟨w.heap.size, 2, none⟩ (Value.slice A0 j c0)) = X at *
      obtain ⟨d0, d1, d2, _⟩ := HEND.out.1.cells
      refine bodyPost_ret (v := .agg #[.int .i64 D0, .int .i64 X0, .slice A0 j c0]) (by
        simp [results, Tryz.results188, go_sem, d0, d1, d2]) rfl ?_
      exact ⟨A0, j, c0, by rw [HD.out.1, HD.out.2.1], HEND.out.2.1, HEND.out.2.2.1, HEND.out.2.2.2⟩
end Go.Proofs.YtfbljmkjiaklfaaGreatDoor

/-
  Contract of bucket.Parse. Condition: a slice of bytes.
-/
namespace Go.Proofs.YtfbljmkjiaklfaaGreatDoor
open Go.RowKit
set_option maxRecDepth 100000
set_option linter.unusedVariables false

theorem cutsL_size (l : List Int) (c : Nat) : ∀ a, a ≤ 240 → a + szP (cutsL l c a) ≤ 240 := by
  induction c with
  | zero => intro a ha; simpa [cutsL, szP] using ha
  | succ c ih =>
    intro a ha
    by_cases h : 240 < cutE l a
    · rw [cutsL_stop h]; simpa [szP] using ha
    · rw [cutsL_go h, szP_cons]
      have := ih (cutE l a) (by omega)
      have h1 : (cutK l a).length ≤ kN l a := by unfold cutK; rw [List.length_take]; omega
      have h2 : (cutV l a).length ≤ vN l a := by unfold cutV; rw [List.length_take]; omega
      have h3 : cutE l a = a + 2 + kN l a + vN l a := rfl
      show a + (2 + (cutK l a).length + (cutV l a).length + szP (cutsL l c (cutE l a))) ≤ 240
      omega
theorem readBk_few (l : List Int) : 8 + szP (readBk l).ps ≤ 240 ∧ (readBk l).ps.length ≤ 116 := by
  have h := cutsL_size l (cntBk l) 8 (by decide)
  have h2 := szP_len (readBk l).ps
  have e : (readBk l).ps = cutsL l (cntBk l) 8 := rfl
  rw [← e] at h
  exact ⟨h, by omega⟩
theorem readBk_int {l : List Int} (hb : AllBytes l) : (-9223372036854775808 ≤ (readBk l).d ∧ (readBk l).d ≤ 9223372036854775807) ∧ (-9223372036854775808 ≤ (readBk l).x ∧ (readBk l).x ≤ 9223372036854775807) := ⟨getR_int hb 1 1, getR_int hb 2 4⟩

/-- Parse's answer, made of parts. -/
theorem parseBk_yes {l : List Int} (h : l.length = 240) (hm : mayBk (readBk l) = true) (hp : pageBk (readBk l) = l) : parseBk l = (readBk l, 0) := by unfold parseBk; rw [if_pos ⟨h, hm, hp⟩]
theorem parseBk_no {l : List Int} (h : ¬ (l.length = 240 ∧ mayBk (readBk l) = true ∧ pageBk (readBk l) = l)) : parseBk l = (⟨0, 0, []⟩, 4) := by unfold parseBk; rw [if_neg h]

/-- clone, its bytes in new memory. -/
theorem bkClone_any {w : World} {B n : Nat} {A : Option Addr} {l : List Int} (c : Nat) (h : RB w B A n l) (hB : B ≤ w.heap.size) (hn : n ≤ 140737488355328) :
    Calls Tryz.prog 81 #[.slice A n c] w fun e w' => ∃ A' c', e = .returned (.slice A' n c') ∧ n ≤ c' ∧ RB w' w'.heap.size A' n l ∧ Below w.heap.size w w' ∧ ∀ x, A' = some x → w.heap.size ≤ x.block := by
  have q22 : ∀ (w : World) (a : Option Addr) (n c n' c' : Nat), (binOp .eql 46 (.slice a n c) (.slice none n' c')).run Tryz.prog w = .ok (.bool a.isNone) w := fun w a n c n' c' => Lib.run_eql_slice_nil w _ _ a n c n' c' Tryz.underlying46
  rcases A with _ | ad
  · have hm : n = 0 := by
      rcases Nat.eq_zero_or_pos n with h0 | h0
      · exact h0
      · obtain ⟨b, off, e, _⟩ := h.at_ h0; cases e
    subst hm
    obtain rfl : l = [] := List.eq_nil_of_length_eq_zero h.len
    go_enter Tryz.func81, Tryz.ntmps81
    go_wp2
    go_ret
    exact ⟨none, 0, rfl, Nat.le_refl _, RB.nil_, Below.refl _ _, fun x hx => by cases hx⟩
  · go_enter Tryz.func81, Tryz.ntmps81
    go_wp2_with (at_builtin; refine wpList_append_bytes rfl _ _ rfl w.heap.size _ 0 [] rfl (World.ownsRow_made w #[] 0 (Nat.le_refl _) (Nat.zero_le _) rfl) B (some ad) n c l rfl (h.alloc hB _) (by omega) (by simp) ?_; intro v1 w1 hown1 _ hb1)
    simp only [Nat.zero_add, List.nil_append] at hown1
    have hge := own_ge hown1
    obtain ⟨A', c', rfl, hc'⟩ := own_shape hown1
    go_ret
    refine ⟨A', c', rfl, hc', RB.of_own hown1 h.bytes, ((Below.refl w.heap.size w).alloc (Nat.le_refl _) _).trans hb1, fun x hx => ?_⟩
    subst hx
    exact hge x.block (by simp [Value.ownBlock])

/-- A bucket over the result's box. -/
theorem bkStore_last {w0 W : World} {n c : Nat} {d x : Int} {A : Option Addr} {ps : List KV} (hr : Stays W (fun k => k = w0.heap.size) A n ps) (hc : n ≤ c) (h0 : BkBox W w0.heap.size 0 0 none 0 0) (hb : Below w0.heap.size w0 W) :
    BkBox (((W.setCell ⟨w0.heap.size, 0, none⟩ (.int .i64 d)).setCell ⟨w0.heap.size, 1, none⟩ (.int .i64 x)).setCell ⟨w0.heap.size, 2, none⟩ (.slice A n c)) w0.heap.size d x A n c ∧ n ≤ c ∧ RPairs (((W.setCell ⟨w0.heap.size, 0, none⟩ (.int .i64 d)).setCell ⟨w0.heap.size, 1, none⟩ (.int .i64 x)).setCell ⟨w0.heap.size, 2, none⟩ (.slice A n c)) (((W.setCell ⟨w0.heap.size, 0, none⟩ (.int .i64 d)).setCell ⟨w0.heap.size, 1, none⟩ (.int .i64 x)).setCell ⟨w0.heap.size, 2, none⟩ (.slice A n c)).heap.size A n ps ∧ Below w0.heap.size w0 (((W.setCell ⟨w0.heap.size, 0, none⟩ (.int .i64 d)).setCell ⟨w0.heap.size, 1, none⟩ (.int .i64 x)).setCell ⟨w0.heap.size, 2, none⟩ (.slice A n c)) := by
  have hq := ((hr.setCell (p := ⟨w0.heap.size, 0, none⟩) rfl (.int .i64 d)).setCell (p := ⟨w0.heap.size, 1, none⟩) rfl (.int .i64 x)).setCell (p := ⟨w0.heap.size, 2, none⟩) rfl (.slice A n c)
  exact ⟨h0.store, hc, hq.now, ((hb.setCell (p := ⟨w0.heap.size, 0, none⟩) (Nat.le_refl _) _).setCell (p := ⟨w0.heap.size, 1, none⟩) (Nat.le_refl _) _).setCell (p := ⟨w0.heap.size, 2, none⟩) (Nat.le_refl _) _⟩
theorem Stays.none_ (w : World) (G : Nat → Prop) : Stays w G none 0 [] := fun W _ _ => RPairs.nil_

set_option maxHeartbeats 6400000 in
theorem bkParse_any {w : World} {B n c : Nat} {A : Option Addr} {l : List Int} (hr : RB w B A n l) (hB : B ≤ w.heap.size) (hc : n ≤ c) (hm : n ≤ maxLen) :
    Calls Tryz.prog 137 #[.slice A n c] w fun e w' => ∃ A' n' c', e = .returned (.tuple #[.agg #[.int .i64 (parseBk l).1.d, .int .i64 (parseBk l).1.x, .slice A' n' c'], .int .i64 (parseBk l).2]) ∧ n' ≤ c' ∧ RPairs w' w'.heap.size A' n' (parseBk l).1.ps ∧ Below w.heap.size w w' := by
  unfold maxLen at hm
  have hX : Below w.heap.size w (w.alloc (BkObj 0 0 none 0 0)) := (Below.refl _ _).alloc (Nat.le_refl _) _
  have hbx := BkBox.new w 0 0 none 0 0
  by_cases h240 : n = 240
  · have HC := Lib.hid (bkClone_any c (hr.below (hX.mono hB)) (Nat.le_trans hB hX.size) (by omega))
    have HBX := Lib.hid hbx
    have HX := Lib.hid hX
    have HR := Lib.hid hr
    have HLEN := Lib.hid (show l.length = 240 by rw [hr.len]; exact h240)
    have hfew := readBk_few l
    have hint := readBk_int hr.bytes
    have hs1 : w.heap.size < (w.alloc (BkObj 0 0 none 0 0)).heap.size := by simp
    clear hX hbx hr
    subst h240
    unfold BkObj at *
    go_enter Tryz.func137, Tryz.ntmps137
    go_wp2_with fail
    refine HC.out.mono ?_
    rintro e w1 ⟨A1, c1, rfl, hc1, hr1, hb1, hnew⟩
    have HB1 := Lib.hid (And.intro (HX.out.trans (hb1.mono HX.out.size)) (HBX.out.below hb1))
    have HRD := Lib.hid (bkRead_any hr1 (Nat.le_refl _) rfl hc1 (fun k => k = w.heap.size) (fun k hk => by rw [hk]; exact HB1.out.2.cells.2.2.2) (fun x hx e => by have := hnew x hx; have e' : x.block = w.heap.size := e; omega))
    clear hr1 hb1 hnew HC HX HBX
    go_wp2_with fail
    refine HRD.out.mono ?_
    rintro e w2 ⟨A2, n2, c2, rfl, hc2, hst2, hb2⟩
    have hXX : Below w2.heap.size w2 (w2.alloc (BkObj (readBk l).d (readBk l).x A2 n2 c2)) := (Below.refl _ _).alloc (Nat.le_refl _) _
    have hb2X := hb2.trans (hXX.mono hb2.size)
    have HB2 := Lib.hid (And.intro (HB1.out.1.trans (hb2X.mono HB1.out.1.size)) (And.intro (HB1.out.2.below hb2X) (And.intro (BkBox.new w2 (readBk l).d (readBk l).x A2 n2 c2) (hst2.below hXX))))
    have hn2 : n2 ≤ 116 := by rw [← hst2.now.len]; exact hfew.2
    have HP := Lib.hid (bkPut_any (readBk l).d (readBk l).x c2 HB2.out.2.2.2.now (Nat.le_refl _) (by unfold maxLen; omega) (by omega) hint.1 hint.2)
    obtain ⟨u0, u1, u2, _⟩ := HB2.out.2.2.1.cells
    have HPY := Lib.hid (fun (hm : mayBk (readBk l) = true) (hp : pageBk (readBk l) = l) => parseBk_yes HLEN.out hm hp)
    have HPN := Lib.hid (fun (h : ¬ (mayBk (readBk l) = true ∧ pageBk (readBk l) = l)) => parseBk_no (l := l) (fun h' => h h'.2))
    have hput : putBk ⟨(readBk l).d, (readBk l).x, (readBk l).ps⟩ = if mayBk (readBk l) = true then (pageBk (readBk l), 0) else ([], 1) := rfl
    rw [hput] at HP
    clear hput hfew hint hst2 hb2 hXX hb2X HRD HB1
    generalize readBk l = R at *
    obtain ⟨D, X0, PS⟩ := R
    unfold BkObj at *
    go_wp2_with fail
    refine HP.out.mono ?_
    by_cases hmay : mayBk ⟨D, X0, PS⟩ = true
    · rw [if_pos hmay]
      rintro e w3 ⟨A3, n3, c3, rfl, hc3, hr3, hb3⟩
      have hr3 : RB w3 w3.heap.size A3 n3 (pageBk ⟨D, X0, PS⟩) := hr3
      obtain ⟨k1, k2, k3, k4⟩ := HB2.out
      have hb03 := k1.trans (hb3.mono k1.size)
      have hbx0 := k2.below hb3
      have hbx4 := k3.below hb3
      have hst3 := k4.below hb3
      have HE := Lib.hid (Equal_any c3 c hr3 (HR.out.below (hb03.mono hB)))
      have f0 := hbx0.frozen 0
      have f1 := hbx0.frozen 1
      have f2 := hbx0.frozen 2
      obtain ⟨z0, z1, z2, _⟩ := hbx0.cells
      clear u0 u1 u2
      obtain ⟨u0, u1, u2, _⟩ := hbx4.cells
      by_cases hpd : pageBk ⟨D, X0, PS⟩ = l
      · have HPS := Lib.hid (HPY.out hmay hpd)
        rw [decide_eq_true hpd] at HE
        have HEND := Lib.hid (bkStore_last (d := D) (x := X0) hst3 hc2 hbx0 hb03)
        clear hr3 hb3 k1 k2 k3 k4 hb03 hbx0 hbx4 hst3 HP hpd hmay HPY HPN HB2
        go_wp2_with fail
        refine HE.out.mono ?_
        rintro e w4 ⟨rfl, rfl⟩
        go_wp2
        generalize hXX : (((w3.setCell ⟨w.heap.size, 0, none⟩ (Value.int IntKind.i64 D)).setCell ⟨w.heap.size, 1, none⟩ (Value.int IntKind.i64 X0)).setCell ⟨w.heap.size, 2, none⟩ (Value.slice A2 n2 c2)) = X at *
        obtain ⟨d0, d1, d2, _⟩ := HEND.out.1.cells
        refine bodyPost_ret (v := .tuple #[.agg #[.int .i64 D, .int .i64 X0, .slice A2 n2 c2], .int .i64 0]) (by
          simp [results, Tryz.results137, go_sem, d0, d1, d2]) rfl ?_
        rw [HPS.out]
        exact ⟨_, _, _, rfl, HEND.out.2.1, HEND.out.2.2.1, HEND.out.2.2.2⟩
      · have HPS := Lib.hid (HPN.out (fun h => hpd h.2))
        rw [decide_eq_false hpd] at HE
        have HEND := Lib.hid (bkStore_last (d := 0) (x := 0) (Stays.none_ w3 (fun k => k = w.heap.size)) (Nat.le_refl 0) hbx0 hb03)
        clear hr3 hb3 k1 k2 k3 k4 hb03 hbx0 hbx4 hst3 HP hpd hmay HPY HPN HB2
        go_wp2_with fail
        refine HE.out.mono ?_
        rintro e w4 ⟨rfl, rfl⟩
        go_wp2
        generalize hXX : (((w3.setCell ⟨w.heap.size, 0, none⟩ (Value.int IntKind.i64 0)).setCell ⟨w.heap.size, 1, none⟩ (Value.int IntKind.i64 0)).setCell ⟨w.heap.size, 2, none⟩ (Value.slice none 0 0)) = X at *
        obtain ⟨d0, d1, d2, _⟩ := HEND.out.1.cells
        refine bodyPost_ret (v := .tuple #[.agg #[.int .i64 0, .int .i64 0, .slice none 0 0], .int .i64 4]) (by
          simp [results, Tryz.results137, go_sem, d0, d1, d2]) rfl ?_
        rw [HPS.out]
        exact ⟨_, _, _, rfl, HEND.out.2.1, HEND.out.2.2.1, HEND.out.2.2.2⟩
    · rw [if_neg hmay]
      rintro e w3 ⟨A3, n3, c3, rfl, hc3, hr3, hb3⟩
      obtain ⟨k1, k2, k3, k4⟩ := HB2.out
      have hb03 := k1.trans (hb3.mono k1.size)
      have hbx0 := k2.below hb3
      have f0 := hbx0.frozen 0
      have f1 := hbx0.frozen 1
      have f2 := hbx0.frozen 2
      obtain ⟨z0, z1, z2, _⟩ := hbx0.cells
      have HPS := Lib.hid (HPN.out (fun h => hmay h.1))
      have HEND := Lib.hid (bkStore_last (d := 0) (x := 0) (Stays.none_ w3 (fun k => k = w.heap.size)) (Nat.le_refl 0) hbx0 hb03)
      clear u0 u1 u2 hr3 hb3 k1 k2 k3 k4 hb03 hbx0 HP hmay HPY HPN HB2
      go_wp2
      generalize hXX : (((w3.setCell ⟨w.heap.size, 0, none⟩ (Value.int IntKind.i64 0)).setCell ⟨w.heap.size, 1, none⟩ (Value.int IntKind.i64 0)).setCell ⟨w.heap.size, 2, none⟩ (Value.slice none 0 0)) = X at *
      obtain ⟨d0, d1, d2, _⟩ := HEND.out.1.cells
      refine bodyPost_ret (v := .tuple #[.agg #[.int .i64 0, .int .i64 0, .slice none 0 0], .int .i64 4]) (by
        simp [results, Tryz.results137, go_sem, d0, d1, d2]) rfl ?_
      rw [HPS.out]
      exact ⟨_, _, _, rfl, HEND.out.2.1, HEND.out.2.2.1, HEND.out.2.2.2⟩
  · have HPS := Lib.hid (parseBk_no (l := l) (fun h => h240 (by rw [← hr.len]; exact h.1)))
    have k1 : ((n : Int) != 240) = true := by simp; omega
    have HX := Lib.hid hX
    obtain ⟨z0, z1, z2, _⟩ := hbx.cells
    clear h240 hX hr hbx
    unfold BkObj at *
    go_enter Tryz.func137, Tryz.ntmps137
    go_wp2
    refine bodyPost_ret (v := .tuple #[.agg #[.int .i64 0, .int .i64 0, .slice none 0 0], .int .i64 4]) (by
      simp [results, Tryz.results137, go_sem, z0, z1, z2]) rfl ?_
    rw [HPS.out]
    exact ⟨none, 0, 0, rfl, Nat.le_refl _, RPairs.nil_, HX.out⟩
end Go.Proofs.YtfbljmkjiaklfaaGreatDoor

/-
  Contract of bucket.Parse once more: what it answers lies in new memory alone. Condition: lengths are ints.
-/
namespace Go.Proofs.YtfbljmkjiaklfaaGreatDoor
open Go.RowKit
set_option maxRecDepth 100000
set_option linter.unusedVariables false

/-- A bucket over the result's box. -/
theorem bkStore_own {w0 W : World} {n c : Nat} {d x : Int} {A : Option Addr} {ps : List KV} (hr : Stays W (fun k => k ≤ w0.heap.size) A n ps) (hc : n ≤ c) (h0 : BkBox W w0.heap.size 0 0 none 0 0) (hb : Below w0.heap.size w0 W) :
    BkBox (((W.setCell ⟨w0.heap.size, 0, none⟩ (.int .i64 d)).setCell ⟨w0.heap.size, 1, none⟩ (.int .i64 x)).setCell ⟨w0.heap.size, 2, none⟩ (.slice A n c)) w0.heap.size d x A n c ∧ n ≤ c ∧ Stays (((W.setCell ⟨w0.heap.size, 0, none⟩ (.int .i64 d)).setCell ⟨w0.heap.size, 1, none⟩ (.int .i64 x)).setCell ⟨w0.heap.size, 2, none⟩ (.slice A n c)) (fun k => k ≤ w0.heap.size) A n ps ∧ Below w0.heap.size w0 (((W.setCell ⟨w0.heap.size, 0, none⟩ (.int .i64 d)).setCell ⟨w0.heap.size, 1, none⟩ (.int .i64 x)).setCell ⟨w0.heap.size, 2, none⟩ (.slice A n c)) := by
  have hq := ((hr.setCell (p := ⟨w0.heap.size, 0, none⟩) (Nat.le_refl _) (.int .i64 d)).setCell (p := ⟨w0.heap.size, 1, none⟩) (Nat.le_refl _) (.int .i64 x)).setCell (p := ⟨w0.heap.size, 2, none⟩) (Nat.le_refl _) (.slice A n c)
  exact ⟨h0.store, hc, hq, ((hb.setCell (p := ⟨w0.heap.size, 0, none⟩) (Nat.le_refl _) _).setCell (p := ⟨w0.heap.size, 1, none⟩) (Nat.le_refl _) _).setCell (p := ⟨w0.heap.size, 2, none⟩) (Nat.le_refl _) _⟩
set_option maxHeartbeats 6400000 in
theorem bkParse_own {w : World} {B n c : Nat} {A : Option Addr} {l : List Int} (hr : RB w B A n l) (hB : B ≤ w.heap.size) (hc : n ≤ c) (hm : n ≤ maxLen) :
    Calls Tryz.prog 137 #[.slice A n c] w fun e w' => ∃ A' n' c', e = .returned (.tuple #[.agg #[.int .i64 (parseBk l).1.d, .int .i64 (parseBk l).1.x, .slice A' n' c'], .int .i64 (parseBk l).2]) ∧ n' ≤ c' ∧ Stays w' (fun k => k ≤ w.heap.size) A' n' (parseBk l).1.ps ∧ Below w.heap.size w w' := by
  unfold maxLen at hm
  have hX : Below w.heap.size w (w.alloc (BkObj 0 0 none 0 0)) := (Below.refl _ _).alloc (Nat.le_refl _) _
  have hbx := BkBox.new w 0 0 none 0 0
  by_cases h240 : n = 240
  · have HC := Lib.hid (bkClone_any c (hr.below (hX.mono hB)) (Nat.le_trans hB hX.size) (by omega))
    have HBX := Lib.hid hbx
    have HX := Lib.hid hX
    have HR := Lib.hid hr
    have HLEN := Lib.hid (show l.length = 240 by rw [hr.len]; exact h240)
    have hfew := readBk_few l
    have hint := readBk_int hr.bytes
    have hs1 : w.heap.size < (w.alloc (BkObj 0 0 none 0 0)).heap.size := by simp
    clear hX hbx hr
    subst h240
    unfold BkObj at *
    go_enter Tryz.func137, Tryz.ntmps137
    go_wp2_with fail
    refine HC.out.mono ?_
    rintro e w1 ⟨A1, c1, rfl, hc1, hr1, hb1, hnew⟩
    have HB1 := Lib.hid (And.intro (HX.out.trans (hb1.mono HX.out.size)) (HBX.out.below hb1))
    have HRD := Lib.hid (bkRead_any hr1 (Nat.le_refl _) rfl hc1 (fun k => k ≤ w.heap.size) (fun k hk => Nat.lt_of_le_of_lt hk HB1.out.2.cells.2.2.2) (fun x hx e => by have := hnew x hx; have e' : x.block ≤ w.heap.size := e; omega))
    clear hr1 hb1 hnew HC HX HBX
    go_wp2_with fail
    refine HRD.out.mono ?_
    rintro e w2 ⟨A2, n2, c2, rfl, hc2, hst2, hb2⟩
    have hXX : Below w2.heap.size w2 (w2.alloc (BkObj (readBk l).d (readBk l).x A2 n2 c2)) := (Below.refl _ _).alloc (Nat.le_refl _) _
    have hb2X := hb2.trans (hXX.mono hb2.size)
    have HB2 := Lib.hid (And.intro (HB1.out.1.trans (hb2X.mono HB1.out.1.size)) (And.intro (HB1.out.2.below hb2X) (And.intro (BkBox.new w2 (readBk l).d (readBk l).x A2 n2 c2) (hst2.below hXX))))
    have hn2 : n2 ≤ 116 := by rw [← hst2.now.len]; exact hfew.2
    have HP := Lib.hid (bkPut_any (readBk l).d (readBk l).x c2 HB2.out.2.2.2.now (Nat.le_refl _) (by unfold maxLen; omega) (by omega) hint.1 hint.2)
    obtain ⟨u0, u1, u2, _⟩ := HB2.out.2.2.1.cells
    have HPY := Lib.hid (fun (hm : mayBk (readBk l) = true) (hp : pageBk (readBk l) = l) => parseBk_yes HLEN.out hm hp)
    have HPN := Lib.hid (fun (h : ¬ (mayBk (readBk l) = true ∧ pageBk (readBk l) = l)) => parseBk_no (l := l) (fun h' => h h'.2))
    have hput : putBk ⟨(readBk l).d, (readBk l).x, (readBk l).ps⟩ = if mayBk (readBk l) = true then (pageBk (readBk l), 0) else ([], 1) := rfl
    rw [hput] at HP
    clear hput hfew hint hst2 hb2 hXX hb2X HRD HB1
    generalize readBk l = R at *
    obtain ⟨D, X0, PS⟩ := R
    unfold BkObj at *
    go_wp2_with fail
    refine HP.out.mono ?_
    by_cases hmay : mayBk ⟨D, X0, PS⟩ = true
    · rw [if_pos hmay]
      rintro e w3 ⟨A3, n3, c3, rfl, hc3, hr3, hb3⟩
      have hr3 : RB w3 w3.heap.size A3 n3 (pageBk ⟨D, X0, PS⟩) := hr3
      obtain ⟨k1, k2, k3, k4⟩ := HB2.out
      have hb03 := k1.trans (hb3.mono k1.size)
      have hbx0 := k2.below hb3
      have hbx4 := k3.below hb3
      have hst3 := k4.below hb3
      have HE := Lib.hid (Equal_any c3 c hr3 (HR.out.below (hb03.mono hB)))
      have f0 := hbx0.frozen 0
      have f1 := hbx0.frozen 1
      have f2 := hbx0.frozen 2
      obtain ⟨z0, z1, z2, _⟩ := hbx0.cells
      clear u0 u1 u2
      obtain ⟨u0, u1, u2, _⟩ := hbx4.cells
      by_cases hpd : pageBk ⟨D, X0, PS⟩ = l
      · have HPS := Lib.hid (HPY.out hmay hpd)
        rw [decide_eq_true hpd] at HE
        have HEND := Lib.hid (bkStore_own (d := D) (x := X0) hst3 hc2 hbx0 hb03)
        clear hr3 hb3 k1 k2 k3 k4 hb03 hbx0 hbx4 hst3 HP hpd hmay HPY HPN HB2
        go_wp2_with fail
        refine HE.out.mono ?_
        rintro e w4 ⟨rfl, rfl⟩
        go_wp2
        generalize hXX : (((w3.setCell ⟨w.heap.size, 0, none⟩ (Value.int IntKind.i64 D)).setCell ⟨w.heap.size, 1, none⟩ (Value.int IntKind.i64 X0)).setCell ⟨w.heap.size, 2, none⟩ (Value.slice A2 n2 c2)) = X at *
        obtain ⟨d0, d1, d2, _⟩ := HEND.out.1.cells
        refine bodyPost_ret (v := .tuple #[.agg #[.int .i64 D, .int .i64 X0, .slice A2 n2 c2], .int .i64 0]) (by
          simp [results, Tryz.results137, go_sem, d0, d1, d2]) rfl ?_
        rw [HPS.out]
        exact ⟨_, _, _, rfl, HEND.out.2.1, HEND.out.2.2.1, HEND.out.2.2.2⟩
      · have HPS := Lib.hid (HPN.out (fun h => hpd h.2))
        rw [decide_eq_false hpd] at HE
        have HEND := Lib.hid (bkStore_own (d := 0) (x := 0) (Stays.none_ w3 (fun k => k ≤ w.heap.size)) (Nat.le_refl 0) hbx0 hb03)
        clear hr3 hb3 k1 k2 k3 k4 hb03 hbx0 hbx4 hst3 HP hpd hmay HPY HPN HB2
        go_wp2_with fail
        refine HE.out.mono ?_
        rintro e w4 ⟨rfl, rfl⟩
        go_wp2
        generalize hXX : (((w3.setCell ⟨w.heap.size, 0, none⟩ (Value.int IntKind.i64 0)).setCell ⟨w.heap.size, 1, none⟩ (Value.int IntKind.i64 0)).setCell ⟨w.heap.size, 2, none⟩ (Value.slice none 0 0)) = X at *
        obtain ⟨d0, d1, d2, _⟩ := HEND.out.1.cells
        refine bodyPost_ret (v := .tuple #[.agg #[.int .i64 0, .int .i64 0, .slice none 0 0], .int .i64 4]) (by
          simp [results, Tryz.results137, go_sem, d0, d1, d2]) rfl ?_
        rw [HPS.out]
        exact ⟨_, _, _, rfl, HEND.out.2.1, HEND.out.2.2.1, HEND.out.2.2.2⟩
    · rw [if_neg hmay]
      rintro e w3 ⟨A3, n3, c3, rfl, hc3, hr3, hb3⟩
      obtain ⟨k1, k2, k3, k4⟩ := HB2.out
      have hb03 := k1.trans (hb3.mono k1.size)
      have hbx0 := k2.below hb3
      have f0 := hbx0.frozen 0
      have f1 := hbx0.frozen 1
      have f2 := hbx0.frozen 2
      obtain ⟨z0, z1, z2, _⟩ := hbx0.cells
      have HPS := Lib.hid (HPN.out (fun h => hmay h.1))
      have HEND := Lib.hid (bkStore_own (d := 0) (x := 0) (Stays.none_ w3 (fun k => k ≤ w.heap.size)) (Nat.le_refl 0) hbx0 hb03)
      clear u0 u1 u2 hr3 hb3 k1 k2 k3 k4 hb03 hbx0 HP hmay HPY HPN HB2
      go_wp2
      generalize hXX : (((w3.setCell ⟨w.heap.size, 0, none⟩ (Value.int IntKind.i64 0)).setCell ⟨w.heap.size, 1, none⟩ (Value.int IntKind.i64 0)).setCell ⟨w.heap.size, 2, none⟩ (Value.slice none 0 0)) = X at *
      obtain ⟨d0, d1, d2, _⟩ := HEND.out.1.cells
      refine bodyPost_ret (v := .tuple #[.agg #[.int .i64 0, .int .i64 0, .slice none 0 0], .int .i64 4]) (by
        simp [results, Tryz.results137, go_sem, d0, d1, d2]) rfl ?_
      rw [HPS.out]
      exact ⟨_, _, _, rfl, HEND.out.2.1, HEND.out.2.2.1, HEND.out.2.2.2⟩
  · have HPS := Lib.hid (parseBk_no (l := l) (fun h => h240 (by rw [← hr.len]; exact h.1)))
    have k1 : ((n : Int) != 240) = true := by simp; omega
    have HX := Lib.hid hX
    obtain ⟨z0, z1, z2, _⟩ := hbx.cells
    clear h240 hX hr hbx
    unfold BkObj at *
    go_enter Tryz.func137, Tryz.ntmps137
    go_wp2
    refine bodyPost_ret (v := .tuple #[.agg #[.int .i64 0, .int .i64 0, .slice none 0 0], .int .i64 4]) (by
      simp [results, Tryz.results137, go_sem, z0, z1, z2]) rfl ?_
    rw [HPS.out]
    exact ⟨none, 0, 0, rfl, Nat.le_refl _, Stays.none_ _ _, HX.out⟩
theorem Stays.grow {w w' : World} {G G' : Nat → Prop} {A : Option Addr} {n : Nat} {ps : List KV} (h : Stays w G A n ps) (hs : w.heap.size ≤ w'.heap.size) (hk : ∀ k, k < w.heap.size → ¬ G k → w'.heap[k]? = w.heap[k]?) (hG : ∀ k, k < w.heap.size → ¬ G k → ¬ G' k) : Stays w' G' A n ps :=
  fun W hW hkW => h W (Nat.le_trans hs hW) (fun k h1 h2 => (hkW k (Nat.lt_of_lt_of_le h1 hs) (hG k h1 h2)).trans (hk k h1 h2))
end Go.Proofs.YtfbljmkjiaklfaaGreatDoor

/-
  A list whose elements take some cells each and lead to memory, in a row that a call builds by append: what keeps it, how it grows. Condition of an append: fewer than 2^32 elements.
-/
namespace Go.Proofs.YtfbljmkjiaklfaaGreatDoor
open Go.RowKit
set_option maxRecDepth 100000
set_option linter.unusedVariables false

theorem gown_at {w : World} {base e size m : Nat} {v : Value} {xs : List Value} (h : w.ownsRow base e size v m xs) : ∀ g, v.ownBlock = some g → base ≤ g ∧ g < w.heap.size := by
  intro g hg
  rcases h.2 with ⟨rfl, _⟩ | ⟨g', cap, cur, rfl, hb, hh, _⟩
  · simp [Value.ownBlock] at hg
  · simp [Value.ownBlock] at hg
    subst hg
    exact ⟨hb, (Array.getElem?_eq_some_iff.1 hh).1⟩
theorem gown_stays {w w' : World} {base e size m : Nat} {v : Value} {xs : List Value} (h : w.ownsRow base e size v m xs) (hk : ∀ g, v.ownBlock = some g → w'.heap[g]? = w.heap[g]?) : w'.ownsRow base e size v m xs := by
  rcases h.2 with h' | ⟨g, cap, cur, rfl, hg, hb, h3⟩
  · exact ⟨h.1, .inl h'⟩
  · exact ⟨h.1, .inr ⟨g, cap, cur, rfl, hg, (hk g (by simp [Value.ownBlock])).trans hb, h3⟩⟩

/-- What R says of an element's cells stands while blocks that are not Y's do. -/
def KeptL {β : Type} (R : World → (Nat → Prop) → List Value → β → Prop) : Prop := ∀ {w w' : World} {Y Y' : Nat → Prop} {us : List Value} {x : β}, R w Y us x → w.heap.size ≤ w'.heap.size → (∀ k, k < w.heap.size → ¬ Y k → ¬ Y' k) → (∀ k, k < w.heap.size → ¬ Y k → w'.heap[k]? = w.heap[k]?) → R w' Y' us x

/-- The list l in a row from block base on; its elements lie apart from the blocks Y, the row's own among them. -/
structure GRow {β : Type} (R : World → (Nat → Prop) → List Value → β → Prop) (e : TypeId) (size : Nat) (w : World) (Y : Nat → Prop) (base : Nat) (v : Value) (l : List β) : Prop where
  row : ∃ vs, w.ownsRow base e size v l.length vs ∧ ∀ (i : Nat) (x : β), l[i]? = some x → R w Y ((vs.drop (i * size)).take size) x
  own : ∀ r, v.ownBlock = some r → Y r

section
variable {β : Type} {R : World → (Nat → Prop) → List Value → β → Prop} {e : TypeId} {size : Nat} {w w' : World} {Y Y' : Nat → Prop} {base : Nat} {v : Value} {l : List β}

theorem GRow.start (w : World) (Y : Nat → Prop) (base : Nat) : GRow R e size w Y base (.slice none 0 0) [] :=
  ⟨⟨[], ⟨by simp, .inl ⟨rfl, rfl⟩⟩, fun i x h => by simp at h⟩, fun r h => by simp [Value.ownBlock] at h⟩
theorem GRow.at_ (h : GRow R e size w Y base v l) : ∀ g, v.ownBlock = some g → base ≤ g ∧ g < w.heap.size := by
  obtain ⟨vs, h1, _⟩ := h.row
  exact gown_at h1
theorem GRow.keep (K : KeptL R) (h : GRow R e size w Y base v l) (hs : w.heap.size ≤ w'.heap.size) (hY : ∀ k, k < w.heap.size → ¬ Y k → ¬ Y' k) (hk : ∀ k, k < w.heap.size → ¬ Y k → w'.heap[k]? = w.heap[k]?) (ho : ∀ r, v.ownBlock = some r → w'.heap[r]? = w.heap[r]? ∧ Y' r) : GRow R e size w' Y' base v l := by
  obtain ⟨vs, h1, h2⟩ := h.row
  exact ⟨⟨vs, gown_stays h1 (fun g hg => (ho g hg).1), fun i x hx => K (h2 i x hx) hs hY hk⟩, fun r hr => (ho r hr).2⟩
theorem GRow.below (K : KeptL R) (h : GRow R e size w Y base v l) (hb : Below w.heap.size w w') : GRow R e size w' Y base v l :=
  h.keep K hb.size (fun _ _ h => h) (fun k hk _ => hb.block k hk) (fun r hr => ⟨hb.block r (h.at_ r hr).2, h.own r hr⟩)
theorem GRow.shape (h : GRow R e size w Y base v l) : ∃ A c, v = .slice A l.length c ∧ l.length ≤ c := by
  obtain ⟨vs, h1, _⟩ := h.row
  rcases h1.2 with ⟨rfl, h0⟩ | ⟨g, cap, cur, rfl, hb, hg, hc, _⟩
  · rw [h0]; exact ⟨none, 0, rfl, Nat.le_refl _⟩
  · exact ⟨_, cap, rfl, hc⟩

/-- append of one element, its cells in block b. -/
theorem GRow.append (K : KeptL R) (h : GRow R e size w Y base v l) {t ty : TypeId} {i0 : TypeInfo} {z : Value} {bytes : Nat} (ht : Tryz.prog.underlying t = some (.slice e)) (hi : Tryz.prog.info? e = some i0) (hz0 : i0.zero = some z) (hz1 : i0.size = size) (hz2 : i0.bytes = bytes) (hzc : z.cells.size = size) (hsz : 0 < size) (hby : bytes ≤ 64)
    {us : List Value} {x : β} {b : Nat} {T : TypeId} (hu : R w Y us x) (hul : us.length = size) (h1 : ∀ u ∈ us, u.oneCell' = true) (hb : w.heap[b]? = some (.cells us.toArray T)) (hn : l.length ≤ 4294967296) (hbase : base ≤ w.heap.size) :
    ∃ v' w', (Builtin.append_ #[t, t] ty #[v, .slice (some ⟨b, 0, none⟩) 1 1]).run Tryz.prog w = .ok v' w' ∧ GRow R e size w' (fun k => Y k ∨ v'.ownBlock = some k) base v' (l ++ [x]) ∧ w.grownBy w' v.ownBlock ∧ (v'.ownBlock = v.ownBlock ∨ v'.ownBlock = some w.heap.size) ∧ ∃ A c, v' = .slice A (l.length + 1) c := by
  obtain ⟨vs, hown, hvs⟩ := h.row
  have hvl : vs.length = l.length * size := hown.1
  have hlen : (l ++ [x]).length = l.length + 1 := by simp
  obtain ⟨v', w', hrun, h2, h3, _, h4⟩ := run_append_own_at (P := Tryz.prog) w base t ty e i0 z size bytes ht hi hz0 hz1 hz2 hzc hsz v l.length vs hown ⟨b, 0, none⟩ 1 1 us (by simp [hul]) (World.news_of_block (cs := us.toArray) hb) h1 (by unfold maxLen; omega) (by
    have : (l.length + 1) * bytes ≤ (l.length + 1) * 64 := Nat.mul_le_mul_left _ hby
    omega) hbase
  have hwk : ∀ k, k < w.heap.size → ¬ Y k → w'.heap[k]? = w.heap[k]? := fun k hk hy => h3.block k hk (fun e => hy (h.own k e.symm))
  refine ⟨v', w', hrun, ⟨⟨vs ++ us, by rw [hlen]; exact h2, fun i y hy => ?_⟩, fun r hr => .inr hr⟩, h3, h4, ?_⟩
  · have far : ∀ {us : List Value} {y : β}, R w Y us y → R w' (fun k => Y k ∨ v'.ownBlock = some k) us y := fun hr => K hr h3.size (fun k hk hy hh => by
      rcases hh with a | a
      · exact hy a
      · rcases h4 with q | q
        · rw [q] at a; exact hy (h.own k a)
        · rw [q] at a; injection a with a; omega) hwk
    rcases Nat.lt_or_ge i l.length with hi' | hi'
    · rw [List.getElem?_append_left hi'] at hy
      have hle : i * size + size ≤ l.length * size := by
        have := Nat.mul_le_mul_right size (show i + 1 ≤ l.length from hi')
        rwa [Nat.add_mul, Nat.one_mul] at this
      rw [List.drop_append_of_le_length (by omega), List.take_append_of_le_length (by rw [List.length_drop]; omega)]
      exact far (hvs i y hy)
    · rw [List.getElem?_append_right hi'] at hy
      have hi0 : i - l.length = 0 := by
        have := (List.getElem?_eq_some_iff.1 hy).1
        simp at this
        omega
      rw [hi0] at hy
      obtain rfl : x = y := by simpa using hy
      obtain rfl : i = l.length := by omega
      rw [← hvl, List.drop_left, ← hul, List.take_length]
      exact far hu
  · obtain ⟨g, cap, e, _⟩ := h2.form (Nat.succ_pos _)
    exact ⟨_, cap, e⟩
end

end Go.Proofs.YtfbljmkjiaklfaaGreatDoor
