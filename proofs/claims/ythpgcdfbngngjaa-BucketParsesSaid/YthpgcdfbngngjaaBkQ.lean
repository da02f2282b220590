/-
  One pair more in the list of the plain Parse: the value's bytes in new memory, the pair, its append, as equations. Condition: fewer than 2^32 pairs.
-/
import Derived.Test.YthpgcdfbngngjaaBkN
import Derived.Test.YthpgcdfbngngjaaBkP
namespace Go.Proofs.Ythpgcdfbngngjaa
open Go.RowKit
set_option maxRecDepth 100000
set_option linter.unusedVariables false

/-- append of one pair, as an equation. -/
theorem bkAppendPair_run {w : World} {base n b : Nat} {v z u : Value} {T : TypeId} {xs : List Value} (hown : w.ownsRow base 48 2 v n xs) (hb : w.heap[b]? = some (.cells #[z, u] T)) (hz : z.oneCell' = true) (hu : u.oneCell' = true) (h63 : n ≤ 4294967296) (hbase : base ≤ w.heap.size) (ty : TypeId) :
    ∃ A' c' w', (Builtin.append_ #[29, 29] ty #[v, .slice (some ⟨b, 0, none⟩) 1 1]).run Try.prog w = .ok (.slice A' (n + 1) c') w' ∧ w'.ownsRow base 48 2 (.slice A' (n + 1) c') (n + 1) (xs ++ [z, u]) ∧ w.grownBy w' v.ownBlock ∧ ((Value.slice A' (n + 1) c').ownBlock = v.ownBlock ∨ (Value.slice A' (n + 1) c').ownBlock = some w.heap.size) := by
  obtain ⟨i0, hi, hz0, hz1, hz2⟩ := info_parts info_pair
  obtain ⟨v', w', hrun, h1, h2, _, h4⟩ := run_append_own_at (P := Try.prog) w base 29 ty 48 i0 (.agg #[.slice none 0 0, .slice none 0 0]) 2 48 Try.underlying29 hi hz0 hz1 hz2 rfl (by decide) v n _ hown ⟨b, 0, none⟩ 1 1 [z, u] rfl (World.news_of_block (cs := #[z, u]) hb) (fun y hy => by
    rcases List.mem_cons.1 hy with rfl | hy
    · exact hz
    · obtain rfl := List.mem_singleton.1 hy; exact hu) (by unfold maxLen; omega) (by omega) hbase
  obtain ⟨g, cap, rfl, _⟩ := h1.form (Nat.succ_pos _)
  exact ⟨_, cap, w', hrun, h1, h2, h4⟩

/-- append of bytes behind a row of the call's own, as a step of a region that draws. -/
theorem step_append_bytes2 {w : World} {ops : Array Oper} {o : Oper} {a : Act} {K : Act → World → Prop} {Q : Exit → Act → World → Prop} {E : Prop} (hgd : o.guard = none) (s x : Operand)
    (ho : o.op = .call { callee := .builtin .append, args := #[s, x], argTypes := #[22, 22] })
    (base : Nat) (v : Value) (n : Nat) (xs : List Int) (hs : a.eval s = v) (hown : w.ownsRow base 5 1 v n (xs.map (Value.int .u8)))
    (B : Nat) (A : Option Addr) (m c : Nat) (l : List Int) (hx : a.eval x = .slice A m c) (hr : RB w B A m l) (h63 : n + m ≤ 140737488355328) (hbase : base ≤ w.heap.size)
    (h : ∀ v' w', w'.ownsRow base 5 1 v' (n + m) ((xs ++ l).map (Value.int .u8)) → Below base w w' → K (a.put o.dst v') w') :
    if Region.wanted o (yielded ops a.tmps) = true then Oper.wp Try.prog o a w K Q else E := by
  obtain ⟨v', w', hrun, h1, _, _, h4⟩ := bkAppend_run (c := c) hown hr h63 hbase o.type
  exact step_append_run hgd s x _ _ ho v _ hs hx hrun (h v' w' h1 h4)

theorem own_relen {w : World} {base e n k : Nat} {v : Value} {xs : List Value} (h : w.ownsRow base e 1 v n xs) (hk : xs.length = k) : w.ownsRow base e 1 v k xs := by
  obtain rfl : n = k := by have := h.1; omega
  exact h
theorem RB.cast_ {w : World} {B n m : Nat} {A : Option Addr} {l : List Int} (h : RB w B A n l) (e : n = m) : RB w B A m l := e ▸ h

/-- The value's bytes are in new memory: what the pair's append leaves. -/
theorem bkRefPush {w0 W w5 : World} {F : Nat → Prop} {base j c0 p0 p n0 cc0 kn kc vn : Nat} {d x d0 x0 : Int} {A0 AA0 ka : Option Addr} {v5 : Value} {m : List KV} {K V : List Int}
    (hrow : KRow W F base (.slice A0 j c0) m) (hm : m.length = j) (hj : j ≤ 4294967296) (hFlt : ∀ k, F k → k < W.heap.size) (h0 : BkBox W p0 d0 x0 AA0 n0 cc0) (hp : BkBox W p d x A0 j c0) (hF0 : F p0) (hFp : F p)
    (hk : KFar W F (.slice A0 j c0) ka kn kc K) (hvb : AllBytes V) (hvn : vn < 256) (hb : Below w0.heap.size w0 W) (hbase : w0.heap.size ≤ base) (hbase2 : base ≤ W.heap.size)
    (o5 : w5.ownsRow W.heap.size 5 1 v5 vn (V.map (Value.int .u8))) (b5 : Below W.heap.size W.drew w5) (ty2 : TypeId) :
    ∃ va vc A8 c8 w8, v5 = .slice va vn vc ∧
      (Builtin.append_ #[29, 29] ty2 #[.slice A0 j c0, .slice (some ⟨w5.heap.size, 0, none⟩) 1 1]).run Try.prog (w5.alloc (.cells #[.slice ka kn kc, .slice va vn vc] 48 (0, 0))) = .ok (.slice A8 (j + 1) c8) w8 ∧
      BkBox w5 p d x A0 j c0 ∧ BkBox (w5.alloc (.cells #[.slice ka kn kc, .slice va vn vc] 48 (0, 0))) p d x A0 j c0 ∧
      KRow w8 F base (.slice A8 (j + 1) c8) (m ++ [(K, V)]) ∧ BkBox w8 p0 d0 x0 AA0 n0 cc0 ∧ BkBox w8 p d x A0 j c0 ∧ Below w0.heap.size w0 w8 := by
  obtain ⟨va, vc, hv5, hvc, hrv⟩ := read_own o5 hvb
  subst hv5
  have b5' : Below W.heap.size W w5 := (Below.refl W.heap.size W).drew.trans b5
  have hrow5 := hrow.below b5'
  have h05 := h0.below b5'
  have hp5 := hp.below b5'
  have hk5 : KFar w5 F (.slice A0 j c0) ka kn kc K := hk.keep b5'.size (fun _ _ h => h) (fun k h1 _ _ => b5'.block k h1)
  obtain ⟨vs, hvs, hvl⟩ := hrow5.row
  have hv5 : KFar w5 F (.slice A0 j c0) va vn vc V := by
    refine ⟨hvc, by unfold maxLen; omega, hrv, fun a ha hn => ?_⟩
    subst ha
    have hge : W.heap.size ≤ a.block := own_ge o5 a.block (by simp [Value.ownBlock])
    refine ⟨fun hf => ?_, fun hf => ?_⟩
    · have := hFlt _ hf
      omega
    · have h1 := hrow.row
      obtain ⟨vs0, hvs0, _⟩ := h1
      have := (bkOwnAt hvs0 _ hf).2
      omega
  have hX : Below w5.heap.size w5 (w5.alloc (.cells #[.slice ka kn kc, .slice va vn vc] 48 (0, 0))) := (Below.refl _ _).alloc (Nat.le_refl _) _
  have hownX := own_later hvs hX
  rw [hm] at hownX
  obtain ⟨A8, c8, w8, r8, o8, g8, e8⟩ := bkAppendPair_run (b := w5.heap.size) (T := 48) hownX (heap_alloc_new w5 _) rfl rfl hj (Nat.le_trans (Nat.le_trans hbase2 b5'.size) hX.size) ty2
  have hst := bkPush_step (w0 := w0) (y := (K, V)) hrow5 hm (fun k hf => Nat.lt_of_lt_of_le (hFlt k hf) b5'.size) h05 hp5 hF0 hFp hk5 hv5 hvs hvl hX (hb.trans (b5'.mono hb.size)) hbase o8 g8 e8
  exact ⟨va, vc, A8, c8, w8, rfl, r8, hp5, hp5.below hX, hst.1, hst.2.1, hst.2.2.1, hst.2.2.2⟩

/-- A key in new memory, apart from a list of pairs. -/
theorem KFar.new {W w1 : World} {F : Nat → Prop} {base j c0 k kc : Nat} {A0 KA : Option Addr} {m : List KV} {K : List Int} (hrow : KRow W F base (.slice A0 j c0) m) (hFlt : ∀ k, F k → k < W.heap.size) (o1 : w1.ownsRow W.heap.size 5 1 (.slice KA k kc) k (K.map (Value.int .u8))) (hK : AllBytes K) (hk : k < 256) : KFar w1 F (.slice A0 j c0) KA k kc K := by
  obtain ⟨KA', kc', e, hkc, hrk⟩ := read_own o1 hK
  cases e
  refine ⟨hkc, by unfold maxLen; omega, hrk, fun a ha hn => ?_⟩
  subst ha
  have hge : W.heap.size ≤ a.block := own_ge o1 a.block (by simp [Value.ownBlock])
  refine ⟨fun hf => ?_, fun hf => ?_⟩
  · have := hFlt _ hf
    omega
  · obtain ⟨vs0, hvs0, _⟩ := hrow.row
    have := (bkOwnAt hvs0 _ hf).2
    omega

/-- A part of a slice. -/
theorem RB.sub {w : World} {B n b off : Nat} {l : List Int} (h : RB w B (some ⟨b, off, none⟩) n l) (hn : 0 < n) {i k : Nat} (hik : i + k ≤ n) : RB w B (some ⟨b, off + i, none⟩) k ((l.drop i).take k) := by
  obtain ⟨b', off', e, hb, hc⟩ := h.at_ hn
  cases e
  refine ⟨by rw [List.length_take, List.length_drop, h.len]; omega, (h.bytes.drop _).take _, fun _ => ⟨b, off + i, rfl, hb, fun j hj => ?_⟩⟩
  rw [Nat.add_assoc, hc (i + j) (by omega), List.getElem?_take, if_pos hj, List.getElem?_drop]
theorem RB.sub0 {w : World} {B : Nat} {A : Option Addr} {l : List Int} {i k : Nat} (hk : k = 0) : RB w B A k ((l.drop i).take k) := by
  subst hk
  exact ⟨by simp, by simp [AllBytes], fun h => absurd h (by omega)⟩
end Go.Proofs.Ythpgcdfbngngjaa
