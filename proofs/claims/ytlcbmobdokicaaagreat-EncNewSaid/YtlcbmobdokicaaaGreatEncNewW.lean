/-
  The texts DoL32, EncNewW joined. Conditions: those that each part says at its head.
-/
import Derived.Test.YtlcbmobdokicaaaGreatPreD
import Derived.Test.YtlcbmobdokicaaaGreatStru
import Derived.Test.YtlcbmobdokicaaaGreatRecA
import Derived.Test.YtlcbmobdokicaaaGreatTreP
import Derived.StillTailTactics
import Derived.Test.YtlcbmobdokicaaaGreatEncI

/-
  The calls of the law of enc, as the statement opens them; whether they are few. No condition.
-/
namespace Go.Proofs.YtlcbmobdokicaaaGreat
open Go.RowKit Go.Maps
set_option maxRecDepth 100000
set_option linter.unusedVariables false

/-- A call. -/
structure Do32 where
  y : Int
  f : Int
  a : Option Addr
  n : Nat
  c : Nat
def do32V (k : Do32) : List Value := [.int .i64 k.y, .int .i64 k.f, .slice k.a k.n k.c]
/-- Calls of a world. -/
def Do32E (w : World) : Enc Do32 := ⟨do32V, 3, fun k => In64 [k.y, k.f] ∧ k.n ≤ k.c ∧ k.c ≤ maxLen ∧ ∃ ls, RL w w.heap.size k.a k.n ls, fun _ => rfl, by decide, fun x u hu => by
  unfold do32V at hu
  simp only [List.mem_cons, List.not_mem_nil, or_false] at hu
  rcases hu with rfl | rfl | rfl <;> rfl⟩
abbrev Dos32E.R (w : World) (B : Nat) (A : Option Addr) (n : Nat) (hs : List Do32) : Prop := (Do32E w).R w B A n hs
theorem cells_do32 : Tryz.prog.cellsOf 49 = 3 := by kernel_rfl
theorem cells_lns32 : Tryz.prog.cellsOf 30 = 1 := by kernel_rfl
open Go.ChangeShapes Go.WideShapes in
theorem open_do32 {H : Type} {enc : TypeId × Value → H} {w : World} {fuel : Nat} {cs : List Value} {x : DataW H × List MemPlace} (h : DataW.trod enc Tryz.prog w 0 (fun _ => true) true fuel 49 cs = some x) (hcl : cs.length = 3) :
    ∃ k : Do32, (Do32E w).ok k ∧ cs = do32V k := by
  obtain ⟨fs, hfs⟩ : ∃ fs, Tryz.prog.underlying 49 = some (.struct fs) := ⟨_, Tryz.underlying49⟩
  obtain ⟨ys, n', hn', hy, hlen, hyl, hf⟩ := DataW.trod_struct Tryz.underlying49 h
  match cs, hcl with
  | [c0, c1, c2], _ =>
    match ys, hyl with
    | [y0, y1, y2], _ =>
      have f0 : DataW.trod enc Tryz.prog w 0 (fun _ => true) true n' 3 (([c0, c1, c2].drop 0).take (Tryz.prog.cellsOf 3)) = [y0, y1, y2][0]? := hf 0 _ rfl
      rw [recInt] at f0
      have f1 : DataW.trod enc Tryz.prog w 0 (fun _ => true) true n' 3 (([c0, c1, c2].drop 1).take (Tryz.prog.cellsOf 3)) = [y0, y1, y2][1]? := hf 1 _ rfl
      rw [recInt] at f1
      have f2 : DataW.trod enc Tryz.prog w 0 (fun _ => true) true n' 30 (([c0, c1, c2].drop 2).take (Tryz.prog.cellsOf 30)) = [y0, y1, y2][2]? := hf 2 _ rfl
      rw [cells_lns32] at f2
      simp only [List.drop_zero, List.take_succ_cons, List.take_zero, List.drop_succ_cons, List.getElem?_cons_zero, List.getElem?_cons_succ] at f0 f1 f2
      obtain ⟨n0, e0, _, w0⟩ := DataW.trod_int Tryz.underlying3 f0
      obtain ⟨n1, e1, _, w1⟩ := DataW.trod_int Tryz.underlying3 f1
      simp only [List.cons.injEq, and_true] at e0 e1
      subst e0 e1
      have hin : In64 [n0, n1] := by
        intro v hv
        simp only [List.mem_cons, List.not_mem_nil, or_false] at hv
        rcases hv with rfl | rfl
        · exact rec_bounds w0
        · exact rec_bounds w1
      rcases open_lines f2 with e4 | ⟨a, len, cap, ls, e4, h1, h2, h3⟩
      · simp only [List.cons.injEq, and_true] at e4
        subst e4
        exact ⟨⟨n0, n1, none, 0, 0⟩, ⟨hin, Nat.le_refl _, Nat.zero_le _, ⟨[], RL.nil_⟩⟩, rfl⟩
      · simp only [List.cons.injEq, and_true] at e4
        subst e4
        exact ⟨⟨n0, n1, some a, len, cap⟩, ⟨hin, h1, h2, ⟨ls, h3⟩⟩, rfl⟩
theorem open_dos32 {H : Type} {enc : TypeId × Value → H} {w : World} {fuel : Nat} {cs : List Value} {x : DataW H × List MemPlace} (h : DataW.trod enc Tryz.prog w 0 (fun _ => true) true fuel 47 cs = some x) :
    cs = [.slice none 0 0] ∨ ∃ (a : Addr) (len cap : Nat) (ls : List Do32), cs = [.slice (some a) len cap] ∧ len ≤ cap ∧ cap ≤ maxLen ∧ Dos32E.R w w.heap.size (some a) len ls :=
  Enc.open_rows (E := Do32E w) (⟨0, 0, none, 0, 0⟩ : Do32) Tryz.underlying47 cells_do32 (fun n ys y hy hl => by
    obtain ⟨k, hk, e⟩ := open_do32 hy hl
    exact ⟨k, hk, e⟩) h
/-- A call at one place, in a later world: its cells, its lines. -/
theorem do32_at {w w' : World} {A : Option Addr} {n : Nat} {l : List Do32} (h : Dos32E.R w w.heap.size A n l) (hb : Below w.heap.size w w') {j : Nat} {k : Do32} (hx : l[j]? = some k) : ∃ b off, A = some ⟨b, off, none⟩ ∧ b < w.heap.size ∧ (w'.cell? ⟨b, off + j * 3, none⟩ = some (.int .i64 k.y) ∧ w'.cell? ⟨b, off + j * 3 + 1, none⟩ = some (.int .i64 k.f) ∧ w'.cell? ⟨b, off + j * 3 + 2, none⟩ = some (.slice k.a k.n k.c)) ∧ In64 [k.y, k.f] ∧ k.n ≤ k.c ∧ k.c ≤ maxLen ∧ ∃ ls, RL w' w.heap.size k.a k.n ls := by
  obtain ⟨h1, h3, h4, ⟨ls, h5⟩⟩ := h.ok k (List.mem_of_getElem? hx)
  have hj := (List.getElem?_eq_some_iff.1 hx).1
  obtain ⟨b, off, rfl, hlt, hc⟩ := h.2.2 (by rw [← h.len]; omega)
  have hz : ∀ z, z < 3 → w'.cell? ⟨b, off + j * 3 + z, none⟩ = (do32V k)[z]? := fun z hz => (hb.cell (p := ⟨b, off + j * 3 + z, none⟩) hlt).trans (hc j k hx z hz)
  exact ⟨b, off, rfl, hlt, ⟨hz 0 (by decide), hz 1 (by decide), hz 2 (by decide)⟩, h1, h3, h4, ⟨ls, h5.below hb⟩⟩
/-- Calls that are few. -/
def few32B (n : Nat) (l : List Do32) : Bool := !(decide (20 < n)) && !(decide (20 < l.length)) && l.all fun k => !(decide (20 < k.n))
theorem few32_is {n : Nat} {l : List Do32} (h : few32B n l = true) : n ≤ 20 ∧ l.length ≤ 20 ∧ ∀ k ∈ l, k.n ≤ 20 := by
  unfold few32B at h
  simp only [Bool.and_eq_true, Bool.not_eq_true', decide_eq_false_iff_not, List.all_eq_true] at h
  exact ⟨by omega, by omega, fun k hk => by have := h.2 k hk; omega⟩
set_option maxHeartbeats 3200000 in
theorem few32_any {w : World} {A A' : Option Addr} {n cap n' cap' : Nat} {l : List Do32} (hn : n ≤ maxLen) (hr : ∃ w0 : World, w0.heap.size ≤ w.heap.size ∧ Below w0.heap.size w0 w ∧ Dos32E.R w0 w0.heap.size A' n' l) (hn' : n' ≤ maxLen) :
    Calls Tryz.prog 16 #[.slice A n cap, .slice A' n' cap'] w fun e w' => e = .returned (.bool (few32B n l)) ∧ Below w.heap.size w w' := by
  obtain ⟨w0, hw0, hb0, hr⟩ := hr
  unfold maxLen at hn hn'
  have hlen := hr.len
  have HR := Lib.hid hr
  have HB0 := Lib.hid hb0
  have hfew : few32B n l = (!(decide (20 < n)) && !(decide (20 < n')) && l.all fun k => !(decide (20 < k.n))) := by unfold few32B; rw [hlen]
  have HLEN := Lib.hid hlen
  rw [hfew]
  clear hr hb0 hfew hlen
  by_cases h1 : 20 < n
  · have k1 : decide ((n : Int) > 20) = true := decide_eq_true (by omega)
    rw [decide_eq_true h1, Bool.not_true, Bool.false_and, Bool.false_and]
    clear h1
    go_enter Tryz.func16, Tryz.ntmps16
    go_wp2_with fail
    go_ret
    exact ⟨rfl, Below.refl _ _⟩
  · have k1 : decide ((n : Int) > 20) = false := decide_eq_false (by omega)
    rw [decide_eq_false h1, Bool.not_false, Bool.true_and]
    clear h1
    by_cases h2 : 20 < n'
    · have k2 : decide ((n' : Int) > 20) = true := decide_eq_true (by omega)
      rw [decide_eq_true h2, Bool.not_true, Bool.false_and]
      clear h2
      go_enter Tryz.func16, Tryz.ntmps16
      go_wp2_with fail
      go_ret
      exact ⟨rfl, Below.refl _ _⟩
    · have k2 : decide ((n' : Int) > 20) = false := decide_eq_false (by omega)
      rw [decide_eq_false h2, Bool.not_false, Bool.true_and]
      clear h2
      have E1 := Lib.hid (fun (k : Do32) (hk : k ∈ l) (h : 20 < k.n) => show (l.all fun k => !(decide (20 < k.n))) = false from List.all_eq_false.2 ⟨k, hk, by rw [decide_eq_true h]; decide⟩)
      have E2 := Lib.hid (fun (h : ∀ (m : Nat) (z : Do32), m < l.length → l[m]? = some z → ¬ 20 < z.n) => show (l.all fun k => !(decide (20 < k.n))) = true from List.all_eq_true.2 fun k hk => by
        obtain ⟨m, hm, rfl⟩ := List.getElem_of_mem hk
        rw [decide_eq_false (h m _ hm (List.getElem?_eq_getElem hm))]
        rfl)
      generalize (l.all fun k => !(decide (20 < k.n))) = bb at E1 E2 ⊢
      go_enter Tryz.func16, Tryz.ntmps16
      go_wp2_with fail
      go_loopw [17] (fun i wr => ∃ j : Nat, j ≤ n' ∧ i = .int .i64 j ∧ Hid (∀ (m : Nat) (z : Do32), m < j → l[m]? = some z → ¬ 20 < z.n) ∧ Hid (Below w.heap.size w wr)) (fun i _ => n' - (intOf i).toNat)
      case atStart => exact ⟨0, Nat.zero_le _, rfl, Lib.hid (fun m y hm => absurd hm (by omega)), Lib.hid (Below.refl _ _)⟩
      case round =>
        obtain ⟨j, hj, rfl, hbef, hbw⟩ := hrel
        by_cases hlt : j < n'
        · have hlt' : (j : Int) < (n' : Int) := by omega
          obtain ⟨k, hk⟩ : ∃ k, l[j]? = some k := ⟨_, List.getElem?_eq_getElem (by rw [HLEN.out]; exact hlt)⟩
          obtain ⟨b, off, rfl, hb, ⟨c0, c1, c2⟩, _, _, h4, _⟩ := do32_at HR.out (HB0.out.trans (hbw.out.mono hw0)) hk
          have HX := Lib.hid (show Below w.heap.size w (wr.alloc (.cells #[.int .i64 k.y, .int .i64 k.f, .slice k.a k.n k.c] 49 (0, 0))) from hbw.out.alloc hbw.out.size _)
          unfold maxLen at h4
          by_cases hbig : 20 < k.n
          · have k3 : decide ((k.n : Int) > 20) = true := decide_eq_true (by omega)
            obtain rfl := E1.out k (List.mem_of_getElem? hk) hbig
            clear hk hb h4 hbig
            go_wp2_with fail
            go_ret
            exact ⟨rfl, HX.out⟩
          · have k3 : decide ((k.n : Int) > 20) = false := decide_eq_false (by omega)
            have hn := Lib.hid (fun (m : Nat) (z : Do32) (hm : m < j + 1) => show l[m]? = some z → ¬ 20 < z.n by
              intro hz
              rcases Nat.lt_or_ge m j with h | h
              · exact hbef.out m z h hz
              · obtain rfl : m = j := by omega
                rw [hk] at hz
                cases hz
                exact hbig)
            clear hk hb h4 hbig
            go_wp2_with fail
            go_roundw
            case rel => exact ⟨j + 1, by omega, by go_num, hn, HX⟩
            case measure => simp [intOf]; omega
        · obtain rfl : j = n' := by omega
          obtain rfl := E2.out (fun m z hm => hbef.out m z (by rw [HLEN.out] at hm; exact hm))
          go_wp2_with fail
          go_ret
          exact ⟨rfl, hbw.out⟩
end Go.Proofs.YtlcbmobdokicaaaGreat

/-
  EncNew: it returns true. No condition beyond those that the statement itself says.
-/
namespace Go.Proofs.YtlcbmobdokicaaaGreat
open Go.RowKit Go.Maps
set_option maxRecDepth 100000
set_option linter.unusedVariables false

theorem RL.touched {w w' : World} {B n : Nat} {A : Option Addr} {l : List Ln} (h : RL w B A n l) {F : Nat → Prop} (hB : B ≤ w.heap.size) (ht : Touch F w w') (hF : ∀ k, F k → B ≤ k) : RL w' w'.heap.size A n l :=
  (h.below (ht.below hF hB)).more (Nat.le_trans hB ht.size)
theorem takeR_le {S : VS} {k y f : Int} {l : List Ln} : (takeR S k y f l).1.1.length ≤ l.length := by
  by_cases h : (takeR S k y f l).1.2 = 0
  · rw [take_taken h]; exact Nat.le_refl _
  · have : (takeR S k y f l).1.1 = [] := by
      unfold takeR at h ⊢
      cases hd : docGet S f with
      | none => rfl
      | some u =>
        obtain ⟨d, st⟩ := u
        rw [hd] at h
        dsimp only at h ⊢
        split
        · rfl
        · rename_i g
          rw [if_neg g] at h
          split
          · rename_i g2
            rw [if_pos g2] at h
            exact absurd rfl h
          · rfl
    rw [this]
    exact Nat.zero_le _
set_option maxHeartbeats 25600000 in
theorem encNewLaw_any {w : World} {A : Option Addr} {n cap : Nat} {l : List Nd} (hr : NdE.R w w.heap.size A n l) (hcap : n ≤ cap) (hn : n ≤ maxLen) {A' : Option Addr} {n' cap' : Nat} {l' : List Do32} (hr' : Dos32E.R w w.heap.size A' n' l') (hcap' : n' ≤ cap') (hn' : n' ≤ maxLen) {A'' : Option Addr} {n'' cap'' : Nat} {l'' : List Do32} (hr'' : Dos32E.R w w.heap.size A'' n'' l'') (hcap'' : n'' ≤ cap'') (hn'' : n'' ≤ maxLen) :
    Calls Tryz.prog 5 #[.slice A n cap, .slice A' n' cap', .slice A'' n'' cap''] w fun e w' => e = .returned (.bool true) ∧ Below w.heap.size w w' := by
  have HF := Lib.hid (few32_any (A := A) (cap := cap) (cap' := cap') hn ⟨w, Nat.le_refl _, Below.refl _ _, hr'⟩ hn')
  have HF2 := Lib.hid (show ∀ W, Below w.heap.size w W → Calls Tryz.prog 16 #[.slice none 0 0, .slice A'' n'' cap''] W fun e w' => e = .returned (.bool (few32B 0 l'')) ∧ Below W.heap.size W w' from fun W hW => few32_any (Nat.zero_le _) ⟨w, hW.size, hW, hr''⟩ hn'')
  have HIS := Lib.hid (fun h => few32_is (n := n) (l := l') h)
  have HIS2 := Lib.hid (fun h => few32_is (n := 0) (l := l'') h)
  have HA := Lib.hid (fun W => awake32_any W)
  have HR := Lib.hid hr
  have HR' := Lib.hid hr'
  have HR2 := Lib.hid hr''
  unfold maxLen at hn hn' hn''
  clear hr hr' hr''
  generalize few32B n l' = fw at HF HIS
  generalize few32B 0 l'' = fw2 at HF2 HIS2
  cases fw with
  | false =>
    clear HIS HIS2 HF2
    go_enter Tryz.func5, Tryz.ntmps5
    go_wp2_with fail
    refine HF.out.mono ?_
    rintro u w1 ⟨rfl, h1⟩
    have H1 := Lib.hid h1
    clear h1 HF
    go_wp2_with fail
    refine (HA.out w1).mono ?_
    rintro u w2 ⟨rfl, h2⟩
    have HE := Lib.hid (H1.out.trans (h2.mono H1.out.size))
    clear h2
    go_wp2_with fail
    go_ret
    exact ⟨rfl, HE.out⟩
  | true =>
  cases fw2 with
  | false =>
    clear HIS HIS2
    go_enter Tryz.func5, Tryz.ntmps5
    go_wp2_with fail
    refine HF.out.mono ?_
    rintro u w1 ⟨rfl, h1⟩
    have H1 := Lib.hid h1
    have HF3 := Lib.hid (HF2.out w1 h1)
    clear h1 HF HF2
    go_wp2_with fail
    refine HF3.out.mono ?_
    rintro u w2 ⟨rfl, h2⟩
    have H2 := Lib.hid (H1.out.trans (h2.mono H1.out.size))
    clear h2 HF3
    go_wp2_with fail
    refine (HA.out w2).mono ?_
    rintro u w3 ⟨rfl, h3⟩
    have HE := Lib.hid (H2.out.trans (h3.mono H2.out.size))
    clear h3
    go_wp2_with fail
    go_ret
    exact ⟨rfl, HE.out⟩
  | true =>
  obtain ⟨q1, q2, q3⟩ := HIS.out (by first | rfl | trivial)
  have HFEW := Lib.hid (And.intro q1 (And.intro q2 q3))
  clear HIS q1 q2 q3
  obtain ⟨_, q2, q3⟩ := HIS2.out (by first | rfl | trivial)
  have HFEW2 := Lib.hid (And.intro q2 q3)
  clear HIS2 q2 q3
  go_enter Tryz.func5, Tryz.ntmps5
  go_wp2_with fail
  refine HF.out.mono ?_
  rintro u w00 ⟨rfl, h00⟩
  have H00 := Lib.hid h00
  have HF3 := Lib.hid (HF2.out w00 h00)
  clear h00 HF HF2
  go_wp2_with fail
  refine HF3.out.mono ?_
  rintro u w1 ⟨rfl, h1⟩
  have h1 := H00.out.trans (h1.mono H00.out.size)
  have HBG := Lib.hid (begun32_any (cap := cap) ((HR.out.below h1).more h1.size) (Nat.le_trans HFEW.out.1 (by omega)))
  have H1 := Lib.hid h1
  clear h1 HF3 HR H00
  go_wp2_with fail
  refine HBG.out.mono ?_
  rintro u w2 ⟨v, m, c, x, rfl, h2⟩
  have H0 := Lib.hid (show (∃ S, Duo (fun _ => False) w1 w1.heap.size (42 + 112 * 0) v m c x S S w2) ∧ w1.heap.size ≤ w2.heap.size from ⟨⟨_, h2.more (by have := HFEW.out.1; omega)⟩, h2.was.size⟩)
  clear h2 HBG
  go_wp2_with fail
  go_loopw [41] (fun iv wr => ∃ j : Nat, j ≤ n' ∧ iv = .int .i64 j ∧ Hid ((∃ S, Duo (fun _ => False) w1 w1.heap.size (42 + 112 * j) v m c x S S wr) ∧ w1.heap.size ≤ wr.heap.size)) (fun iv _ => n' - (intOf iv).toNat)
  case atStart => exact ⟨0, Nat.zero_le _, rfl, H0⟩
  case round =>
    clear H0
    obtain ⟨j, hj, rfl, HJ⟩ := hrel
    by_cases hlt : j < n'
    · have hlt' : (j : Int) < (n' : Int) := by omega
      have hj0 : (0 : Int) ≤ (j : Int) := by omega
      obtain ⟨⟨S, hdj⟩, hwr⟩ := HJ.out
      obtain ⟨k, hk⟩ : ∃ k, l'[j]? = some k := ⟨_, List.getElem?_eq_getElem (by rw [HR'.out.len]; exact hlt)⟩
      have hj20 : j < 20 := by have := HFEW.out.2.1; have := HR'.out.len; omega
      have hwas := H1.out.trans (hdj.was.mono H1.out.size)
      obtain ⟨b, off, rfl, hb, ⟨c0, c1, c2⟩, hin, hkc, hkm, ⟨ls, hls⟩⟩ := do32_at HR'.out hwas hk
      obtain ⟨wb, hwb⟩ : ∃ wb, wb = wr.alloc (.cells #[.int .i64 k.y, .int .i64 k.f, .slice k.a k.n k.c] 49 (0, 0)) := ⟨_, rfl⟩
      have hbb : Below wr.heap.size wr wb := by rw [hwb]; exact (Below.refl _ _).alloc (Nat.le_refl _) _
      have hblk : wb.heap[wr.heap.size]? = some (.cells #[.int .i64 k.y, .int .i64 k.f, .slice k.a k.n k.c] 49 (0, 0)) := by rw [hwb]; exact heap_alloc_new wr _
      have hsz : wb.heap.size = wr.heap.size + 1 := by rw [hwb]; simp
      have hown := hdj.own (Z := fun k => k = wr.heap.size) hwr hbb (fun k hk => .inr (by rw [hk]; omega))
      have hs1 := H1.out.size
      have hlsb := (hls.below (hbb.mono (Nat.le_trans hs1 hwr)))
      have HLS := Lib.hid (show ∀ W, KeptB (fun k => k = wr.heap.size) w1.heap.size wb W → RL W w1.heap.size k.a k.n ls ∧ w1.heap.size ≤ W.heap.size ∧ W.heap[wr.heap.size]? = some (.cells #[.int .i64 k.y, .int .i64 k.f, .slice k.a k.n k.c] 49 (0, 0)) from fun W hW =>
        ⟨(hlsb.below (hW.2.2.mono hs1)).more hs1, Nat.le_trans hwr (Nat.le_trans hbb.size hW.size), (hW.1 _ rfl).trans hblk⟩)
      have hsb := Nat.le_trans hwr hbb.size
      have HP := Lib.hid (hown.view (M := 42 + 112 * j + 56) (S' := (preNew S k.y ls).2) (P := fun e _ => e = .returned (.tuple #[.int .i64 (preNew S k.y ls).1.1, .bool (preNew S k.y ls).1.2.1, .int .i64 (preNew S k.y ls).1.2.2])) hsb (fun hms => many_preNew hms k.y ls) (preNew_W S k.y ls) (by omega) (fun X hX hmx hXB => (preNew_any (cap := k.c) hX (y := k.y) (hin _ (by simp)) (fun W hW => (hlsb.more hs1).touched hsb hW (fun q hq => by rw [hq]; exact hXB _ hX.xc)) hkc (Nat.le_trans hkc hkm) (by have := hmx.len; omega)).mono fun e w' ⟨a, b, c⟩ => ⟨a, b, c⟩))
      have HY := Lib.hid (And.intro (hin k.y (by simp)) (And.intro hkc hkm))
      have HN := Lib.hid (show 42 + 112 * (j + 1) ≤ 20000 by omega)
      clear hdj hwr hk hwas hb hin hkc hkm hls hbb hblk hsz hown hlsb hsb HJ
      obtain ⟨R, hR⟩ : ∃ R, R = preNew S k.y ls := ⟨_, rfl⟩
      have HRR := Lib.hid hR
      rw [← hR] at HP
      clear hR
      obtain ⟨⟨ra, rb, re⟩, RS⟩ := R
      obtain ⟨ky, kf, ka, kn, kc⟩ := k
      simp only at HP HLS HY HRR hwb c0 c1 c2
      go_wp2_with fail
      rw [← hwb]
      clear hwb c0 c1 c2
      refine HP.out.mono ?_
      rintro u w5 ⟨rfl, h5, k5⟩
      obtain ⟨hl5, hs5, hk5⟩ := HLS.out w5 k5
      have y0 : w5.cell? ⟨wr.heap.size, 0, none⟩ = some (.int .i64 ky) := by rw [cell_of_row w5 _ 0 _ _ (0, 0) hk5]; rfl
      have y2 : w5.cell? ⟨wr.heap.size, 2, none⟩ = some (.slice ka kn kc) := by rw [cell_of_row w5 _ 2 _ _ (0, 0) hk5]; rfl
      have HQ := Lib.hid (h5.ref (M := 42 + 112 * (j + 1)) (P := fun e _ T' => e = .returned (.tuple #[.int .i64 ra, .bool rb, .int .i64 re]) ∧ (re = 0 → T' = RS)) hs5 (by omega) (fun X p q r a hX hmx hB => (rPreNew_any (cap := kc) hX hmx (by omega) ky HY.out.1 (l := ls) (fun W hW => hl5.touched hs5 hW (fun z hz => by
        have ho := hX.own
        rcases hz with hz | hz
        · rw [hz]; exact hB _ ho.1
        · rw [hz]; exact hB _ ho.2)) (Nat.le_trans HY.out.2.1 HY.out.2.2)).mono fun e w' ⟨T, a1, a2, a3, a4, a5, a6⟩ => by
        rw [← HRR.out] at a1 a2
        exact ⟨T, ⟨a1, a2⟩, a3.more (by omega), a4.more (by omega), a5, a6⟩))
      have HK5 := Lib.hid k5
      clear h5 k5 hl5 hs5 hk5 HP
      go_wp2_with fail
      refine HQ.out.mono ?_
      rintro u w6 ⟨T, ⟨rfl, hT⟩, h6, k6⟩
      have k56 := HK5.out.trans k6
      obtain ⟨hl6, hs6, hk6⟩ := HLS.out w6 k56
      have HEN := Lib.hid (show Calls Tryz.prog 19 #[.pointer (some ⟨v, 0, none⟩), .pointer (some ⟨x, 0, none⟩), .int .i64 re] w6 fun u w' => u = .returned (.bool true) ∧ (∃ S, Duo (fun k => k = wr.heap.size) w1 w1.heap.size (42 + 112 * (j + 1)) v m c x S S w') from by
        refine (end32_any h6 hs6 (by have := HN.out; omega) re hT).mono ?_
        rintro u w' ⟨rfl, ⟨U, _, _, hU⟩, hk⟩
        exact ⟨rfl, ⟨U, hU⟩⟩)
      clear h6 k6 k56 hl6 hs6 hk6 hT HK5 HQ y0 y2 HLS
      go_wp2_with fail
      refine HEN.out.mono ?_
      rintro e w9 ⟨rfl, hU⟩
      have HJ := Lib.hid (show (∃ S, Duo (fun _ => False) w1 w1.heap.size (42 + 112 * (j + 1)) v m c x S S w9) ∧ w1.heap.size ≤ w9.heap.size from by
        obtain ⟨U, hU⟩ := hU
        exact ⟨⟨U, hU.own hU.was.size (Below.refl _ _) (fun k hk => hk.elim)⟩, hU.was.size⟩)
      clear hU HEN
      go_wp2_with fail
      go_roundw
      case rel => exact ⟨j + 1, by omega, by go_num, HJ⟩
      case measure => simp [intOf]; omega
    · obtain rfl : j = n' := by omega
      have H0 := Lib.hid (show (∃ S, Duo (fun _ => False) w1 w1.heap.size (2300 + 164 * 0) v m c x S S wr) ∧ w1.heap.size ≤ wr.heap.size from by
        obtain ⟨⟨S, hS⟩, hw⟩ := HJ.out
        exact ⟨⟨S, hS.more (by have := HFEW.out.2.1; have := HR'.out.len; omega)⟩, hw⟩)
      clear HJ
      go_wp2_with fail
      go_loopw [69] (fun iv wr => ∃ j : Nat, j ≤ n'' ∧ iv = .int .i64 j ∧ Hid ((∃ S, Duo (fun _ => False) w1 w1.heap.size (2300 + 164 * j) v m c x S S wr) ∧ w1.heap.size ≤ wr.heap.size)) (fun iv _ => n'' - (intOf iv).toNat)
      case atStart => exact ⟨0, Nat.zero_le _, rfl, H0⟩
      case round =>
        clear H0
        obtain ⟨i, hi, rfl, HJ⟩ := hrel
        by_cases hlt : i < n''
        · have hlt' : (i : Int) < (n'' : Int) := by omega
          have hi0 : (0 : Int) ≤ (i : Int) := by omega
          obtain ⟨⟨S, hdj⟩, hwr⟩ := HJ.out
          obtain ⟨k, hk⟩ : ∃ k, l''[i]? = some k := ⟨_, List.getElem?_eq_getElem (by rw [HR2.out.len]; exact hlt)⟩
          have hkn := HFEW2.out.2 k (List.mem_of_getElem? hk)
          have hi20 : i < 20 := by have := HFEW2.out.1; have := HR2.out.len; omega
          have hwas := H1.out.trans (hdj.was.mono H1.out.size)
          obtain ⟨b, off, rfl, hb, ⟨c0, c1, c2⟩, hin, hkc, hkm, ⟨ls, hls⟩⟩ := do32_at HR2.out hwas hk
          obtain ⟨wb, hwb⟩ : ∃ wb, wb = wr.alloc (.cells #[.int .i64 k.y, .int .i64 k.f, .slice k.a k.n k.c] 49 (0, 0)) := ⟨_, rfl⟩
          have hbb : Below wr.heap.size wr wb := by rw [hwb]; exact (Below.refl _ _).alloc (Nat.le_refl _) _
          have hblk : wb.heap[wr.heap.size]? = some (.cells #[.int .i64 k.y, .int .i64 k.f, .slice k.a k.n k.c] 49 (0, 0)) := by rw [hwb]; exact heap_alloc_new wr _
          have hsz : wb.heap.size = wr.heap.size + 1 := by rw [hwb]; simp
          have hown := hdj.own (Z := fun k => k = wr.heap.size) hwr hbb (fun k hk => .inr (by rw [hk]; omega))
          have hs1 := H1.out.size
          have hlsb := (hls.below (hbb.mono (Nat.le_trans hs1 hwr)))
          have HLS := Lib.hid (show ∀ W, KeptB (fun k => k = wr.heap.size) w1.heap.size wb W → RL W w1.heap.size k.a k.n ls ∧ w1.heap.size ≤ W.heap.size ∧ W.heap[wr.heap.size]? = some (.cells #[.int .i64 k.y, .int .i64 k.f, .slice k.a k.n k.c] 49 (0, 0)) from fun W hW =>
            ⟨(hlsb.below (hW.2.2.mono hs1)).more hs1, Nat.le_trans hwr (Nat.le_trans hbb.size hW.size), (hW.1 _ rfl).trans hblk⟩)
          have hsb := Nat.le_trans hwr hbb.size
          have HP := Lib.hid (hown.view (M := 2300 + 164 * i + 62) (S' := (encNew S k.y k.f ls).2) (P := fun e _ => e = .returned (.tuple #[.int .i64 (encNew S k.y k.f ls).1.1, .bool (encNew S k.y k.f ls).1.2.1, .int .i64 (encNew S k.y k.f ls).1.2.2])) hsb (fun hms => many_encNew hms k.y k.f ls) (encNew_W S k.y k.f ls) (by omega) (fun X hX hmx hXB => (encNew_any (cap := k.c) hX (y := k.y) (f := k.f) (hin _ (by simp)) (hin _ (by simp)) (fun W hW => (hlsb.more hs1).touched hsb hW (fun q hq => by rw [hq]; exact hXB _ hX.xc)) hkc (Nat.le_trans hkc hkm) (by have := hmx.len; omega)).mono fun e w' ⟨a, b, c⟩ => ⟨a, b, c⟩))
          have HY := Lib.hid (show (Nd64 k.y ∧ Nd64 k.f) ∧ k.n ≤ k.c ∧ k.c ≤ maxLen ∧ k.n ≤ 20 ∧ (∀ z ∈ ls, LnOk z) ∧ ls.length = k.n from ⟨⟨hin _ (by simp), hin _ (by simp)⟩, hkc, hkm, hkn, hls.ok, hls.len⟩)
          have HOK := Lib.hid (fun f d st (hd : docGet S f = some (d, st)) => hdj.docOk hd)
          have HN := Lib.hid (show 2300 + 164 * (i + 1) ≤ 20000 by omega)
          clear hdj hwr hk hwas hb hin hkc hkm hls hbb hblk hsz hown hlsb hsb HJ hkn
          obtain ⟨R, hR⟩ : ∃ R, R = encNew S k.y k.f ls := ⟨_, rfl⟩
          have HRR := Lib.hid hR
          rw [← hR] at HP
          clear hR
          obtain ⟨⟨ra, rb, re⟩, RS⟩ := R
          obtain ⟨ky, kf, ka, kn, kc⟩ := k
          simp only at HP HLS HY HRR hwb c0 c1 c2
          go_wp2_with fail
          rw [← hwb]
          clear hwb c0 c1 c2
          refine HP.out.mono ?_
          rintro u w5 ⟨rfl, h5, k5⟩
          obtain ⟨hl5, hs5, hk5⟩ := HLS.out w5 k5
          have y0 : w5.cell? ⟨wr.heap.size, 0, none⟩ = some (.int .i64 ky) := by rw [cell_of_row w5 _ 0 _ _ (0, 0) hk5]; rfl
          have y1 : w5.cell? ⟨wr.heap.size, 1, none⟩ = some (.int .i64 kf) := by rw [cell_of_row w5 _ 1 _ _ (0, 0) hk5]; rfl
          have y2 : w5.cell? ⟨wr.heap.size, 2, none⟩ = some (.slice ka kn kc) := by rw [cell_of_row w5 _ 2 _ _ (0, 0) hk5]; rfl
          have HQ := Lib.hid (h5.ref (M := 2300 + 164 * i + 124) (P := fun e _ T' => e = .returned (.tuple #[.int .i64 ra, .bool rb, .int .i64 re]) ∧ (re = 0 → T' = RS)) hs5 (by omega) (fun X p q r a hX hmx hB => (rEncNew_any (cap := kc) hX hmx (by omega) HOK.out ky kf HY.out.1.1 HY.out.1.2 (l := ls) (fun W hW => hl5.touched hs5 hW (fun z hz => by
            have ho := hX.own
            rcases hz with hz | hz
            · rw [hz]; exact hB _ ho.1
            · rw [hz]; exact hB _ ho.2)) (Nat.le_trans HY.out.2.1 HY.out.2.2.1)).mono fun e w' ⟨T, a1, a2, a3, a4, a5, a6⟩ => by
            rw [← HRR.out] at a1 a2
            exact ⟨T, ⟨a1, a2⟩, a3.more (by omega), a4.more (by omega), a5, a6⟩))
          have HK5 := Lib.hid k5
          clear h5 k5 hl5 hs5 hk5 HP
          go_wp2_with fail
          refine HQ.out.mono ?_
          rintro u w6 ⟨T, ⟨rfl, hT⟩, h6, k6⟩
          have k56 := HK5.out.trans k6
          obtain ⟨hl6, hs6, hk6⟩ := HLS.out w6 k56
          have HEN := Lib.hid (show Calls Tryz.prog 19 #[.pointer (some ⟨v, 0, none⟩), .pointer (some ⟨x, 0, none⟩), .int .i64 re] w6 fun u w' => u = .returned (.bool true) ∧ (∃ U, Duo (fun k => k = wr.heap.size) w1 w1.heap.size (2300 + 164 * i + 124) v m c x U U w') ∧ KeptB (fun k => k = wr.heap.size) w1.heap.size wb w' from by
            refine (end32_any h6 hs6 (by have := HN.out; omega) re hT).mono ?_
            rintro u w' ⟨rfl, ⟨U, _, _, hU⟩, hk⟩
            exact ⟨rfl, ⟨U, hU⟩, k56.trans hk⟩)
          have x1 : (ra != ra) = false := by simp
          have x2 : (rb != rb) = false := by simp
          have x3 : (re != re) = false := by simp
          clear h6 k6 k56 hl6 hs6 hk6 hT HK5 HQ y0 y1 y2 HOK HRR
          go_wp2_with fail
          refine HEN.out.mono ?_
          rintro e w9 ⟨rfl, ⟨U, h9⟩, k9⟩
          clear x1 x2 x3 HEN
          obtain ⟨hl9, hs9, hk9⟩ := HLS.out w9 k9
          have z0 : w9.cell? ⟨wr.heap.size, 0, none⟩ = some (.int .i64 ky) := by rw [cell_of_row w9 _ 0 _ _ (0, 0) hk9]; rfl
          have z1 : w9.cell? ⟨wr.heap.size, 1, none⟩ = some (.int .i64 kf) := by rw [cell_of_row w9 _ 1 _ _ (0, 0) hk9]; rfl
          have z2 : w9.cell? ⟨wr.heap.size, 2, none⟩ = some (.slice ka kn kc) := by rw [cell_of_row w9 _ 2 _ _ (0, 0) hk9]; rfl
          have hdok := takeR_ok (k := 1) (y := ky) (f := kf) (fun d st hd => h9.docOk hd) HY.out.2.2.2.2.1
          have hlen := takeR_le (S := U) (k := 1) (y := ky) (f := kf) (l := ls)
          have HTP := Lib.hid (h9.viewN (M := 2300 + 164 * i + 144) (S' := (takeR U 1 ky kf ls).2) (P := fun e w' => ∃ u, e = .returned (.tuple #[u, .int .i64 (takeR U 1 ky kf ls).1.2]) ∧ DlE.Own 58 w' w9.heap.size u (takeR U 1 ky kf ls).1.1) hs9 (fun hms => (many_take hms 1 ky kf ls).more (by have := HY.out.2.2.2; omega)) (takeR_W U 1 ky kf ls) (by omega) (fun X hX hmx hXB => (encTake_any (cap := kc) hX 1 ky kf HY.out.1.2 (fun W hW => hl9.touched hs9 hW (fun q hq => by rw [hq]; exact hXB _ hX.xc)) (by have := HY.out.2.2.2; omega) (by have := hmx.len; omega)).mono fun e w' ⟨u, e1, e2, e3, e4⟩ => ⟨⟨u, e1, e3⟩, e2, e4⟩))
          have HRT := Lib.hid (show ∀ (Z : Nat → Prop) W, (∀ q, q = wr.heap.size → Z q) → Duo Z w1 w1.heap.size (2300 + 164 * i + 144) v m c x (takeR U 1 ky kf ls).2 U W → KeptB (fun k => k = wr.heap.size) w1.heap.size wb W → Calls Tryz.prog 23 #[.pointer (some ⟨x, 0, none⟩), .int .i64 1, .int .i64 ky, .int .i64 kf, .slice ka kn kc] W fun e w' => ∃ T', (∃ u, e = .returned (.tuple #[u, .int .i64 (takeR U 1 ky kf ls).1.2]) ∧ DlE.Own 58 w' W.heap.size u (takeR U 1 ky kf ls).1.1) ∧ Duo Z w1 w1.heap.size (2300 + 164 * i + 164) v m c x (takeR U 1 ky kf ls).2 T' w' ∧ KeptB Z w1.heap.size W w' from fun Z W hZ hD hK => by
            obtain ⟨hlW, hsW, hkW⟩ := HLS.out W hK
            exact hD.ref (M := 2300 + 164 * i + 164) (P := fun e w' T' => ∃ u, e = .returned (.tuple #[u, .int .i64 (takeR U 1 ky kf ls).1.2]) ∧ DlE.Own 58 w' W.heap.size u (takeR U 1 ky kf ls).1.1) hsW (by omega) (fun X p q r a hX hmx hB => (rTake_any (cap := kc) hX hmx (by have := HN.out; omega) 1 ky kf HY.out.1.2 (fun V hV => hlW.touched hsW hV (fun z hz => by
              have ho := hX.own
              rcases hz with hz | hz
              · rw [hz]; exact hB _ ho.1
              · rw [hz]; exact hB _ ho.2)) (by have := HY.out.2.2.2; omega)).mono fun e w' ⟨u', T, e1, e2, e3, e4, e5, e6, e7⟩ => ⟨T, ⟨u', e1, e3⟩, e4.more (by have := HY.out.2.2.2; omega), e5.more (by have := HY.out.2.2.2; omega), e6, e7⟩))
          have HK9 := Lib.hid (And.intro k9 hs9)
          have HTL := Lib.hid (And.intro hdok hlen)
          clear h9 k9 hl9 hs9 hk9 hdok hlen
          generalize takeR U 1 ky kf ls = TR at HTP HRT HTL
          obtain ⟨⟨tl, te⟩, TS⟩ := TR
          simp only at HTP HRT HTL
          go_wp2_with fail
          refine HTP.out.mono ?_
          rintro u w10 ⟨⟨u1, rfl, own10⟩, hZ10, k10⟩
          clear HTP z0 z1 z2
          have k910 := HK9.out.1.trans k10
          have h10 := hZ10 (fun q => q = wr.heap.size ∨ u1.ownBlock = some q) (fun q hq => hq.elim .inl fun e => .inr (own10.at_ q e))
          have HRT2 := Lib.hid (HRT.out _ w10 (fun q hq => .inl hq) h10 k910)
          obtain ⟨hl10, hs10, hk10⟩ := HLS.out w10 k910
          have z0 : w10.cell? ⟨wr.heap.size, 0, none⟩ = some (.int .i64 ky) := by rw [cell_of_row w10 _ 0 _ _ (0, 0) hk10]; rfl
          have z1 : w10.cell? ⟨wr.heap.size, 1, none⟩ = some (.int .i64 kf) := by rw [cell_of_row w10 _ 1 _ _ (0, 0) hk10]; rfl
          have z2 : w10.cell? ⟨wr.heap.size, 2, none⟩ = some (.slice ka kn kc) := by rw [cell_of_row w10 _ 2 _ _ (0, 0) hk10]; rfl
          have HO10 := Lib.hid (And.intro own10 hs10)
          clear hZ10 k10 k910 h10 hl10 hk10 hs10 HRT HK9 own10
          go_wp2_with fail
          refine HRT2.out.mono ?_
          rintro u w11 ⟨T', ⟨u2, rfl, own11⟩, h11, k11⟩
          have own10 := HO10.out.1.stays (w' := w11) fun q hq => k11.1 q (.inr hq)
          obtain ⟨A1, k1, rfl, hk1⟩ := own10.shape
          obtain ⟨A2, k2, rfl, hk2⟩ := own11.shape
          have hs11 : w1.heap.size ≤ w11.heap.size := Nat.le_trans HO10.out.2 k11.size
          have htl : tl.length ≤ maxLen := by have := HTL.out.2; have := HY.out.2.2.2; unfold maxLen; omega
          have HEQ := Lib.hid (EqualDl_any k1 k2 (own10.read HTL.out.1).2.2 (own11.read HTL.out.1).2.2 htl htl (Nat.le_refl _) (Nat.le_refl _))
          rw [decide_eq_true (rfl : tl = tl)] at HEQ
          have HEN := Lib.hid (show ∀ W, Below w11.heap.size w11 W → Calls Tryz.prog 19 #[.pointer (some ⟨v, 0, none⟩), .pointer (some ⟨x, 0, none⟩), .int .i64 1] W fun u w' => u = .returned (.bool true) ∧ (∃ U, Duo (fun _ => False) w1 w1.heap.size (2300 + 164 * (i + 1)) v m c x U U w') ∧ w1.heap.size ≤ w'.heap.size from fun W hW => by
            refine (end32_any (h11.below hs11 hW) (Nat.le_trans hs11 hW.size) (by have := HN.out; omega) 1 (fun e => absurd e (by decide))).mono ?_
            rintro u w' ⟨rfl, ⟨U, _, _, hU⟩, hk⟩
            have hsz := Nat.le_trans (Nat.le_trans hs11 hW.size) hk.size
            exact ⟨rfl, ⟨U, (hU.own hsz (Below.refl _ _) (fun k hk => hk.elim)).more (by omega)⟩, hsz⟩)
          have x3 : (te != te) = false := by simp
          clear HRT2 z0 z1 z2 HO10 own10 own11 h11 k11 hk1 hk2 hs11 HTL HLS HY htl
          go_wp2_with fail
          refine HEQ.out.mono ?_
          rintro u w12 ⟨rfl, h12⟩
          have HEN2 := Lib.hid (HEN.out w12 h12)
          clear HEN h12 HEQ
          go_wp2_with fail
          refine HEN2.out.mono ?_
          rintro u w13 ⟨rfl, h13⟩
          have HJ := Lib.hid h13
          clear h13 HEN2 x3
          go_wp2_with fail
          go_roundw
          case rel => exact ⟨i + 1, by omega, by go_num, HJ⟩
          case measure => simp [intOf]; omega
        · obtain rfl : i = n'' := by omega
          have hw := (HJ.out.1.choose_spec).was
          have HB := Lib.hid (H1.out.trans (hw.mono H1.out.size))
          have HAW := Lib.hid (HA.out wr)
          clear hw HJ
          go_wp2_with fail
          refine HAW.out.mono ?_
          rintro u w2 ⟨rfl, h2⟩
          have HE := Lib.hid (HB.out.trans (h2.mono HB.out.size))
          clear h2
          go_wp2_with fail
          go_ret
          exact ⟨rfl, HE.out⟩
end Go.Proofs.YtlcbmobdokicaaaGreat
