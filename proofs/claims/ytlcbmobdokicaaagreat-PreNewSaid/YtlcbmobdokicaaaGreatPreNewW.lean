/-
  The texts DoL31, PreNewW joined. Conditions: those that each part says at its head.
-/
import Derived.Test.YtlcbmobdokicaaaGreatPreD
import Derived.Test.YtlcbmobdokicaaaGreatStru
import Derived.Test.YtlcbmobdokicaaaGreatRecA
import Derived.Test.YtlcbmobdokicaaaGreatTreP
import Derived.StillTailTactics
import Derived.Test.YtlcbmobdokicaaaGreatLawA31
import Derived.Test.YtlcbmobdokicaaaGreatPreG

/-
  The calls of the law of pre, as the statement opens them; whether they are few. No condition.
-/
namespace Go.Proofs.YtlcbmobdokicaaaGreat
open Go.RowKit Go.Maps
set_option maxRecDepth 100000
set_option linter.unusedVariables false

/-- A call. -/
structure Do31 where
  y : Int
  f : Int
  a : Option Addr
  n : Nat
  c : Nat
def do31V (k : Do31) : List Value := [.int .i64 k.y, .int .i64 k.f, .slice k.a k.n k.c]
/-- Calls of a world. -/
def Do31E (w : World) : Enc Do31 := ⟨do31V, 3, fun k => In64 [k.y, k.f] ∧ k.n ≤ k.c ∧ k.c ≤ maxLen ∧ ∃ ls, RL w w.heap.size k.a k.n ls, fun _ => rfl, by decide, fun x u hu => by
  unfold do31V at hu
  simp only [List.mem_cons, List.not_mem_nil, or_false] at hu
  rcases hu with rfl | rfl | rfl <;> rfl⟩
abbrev Dos31E.R (w : World) (B : Nat) (A : Option Addr) (n : Nat) (hs : List Do31) : Prop := (Do31E w).R w B A n hs
theorem cells_do31 : Tryz.prog.cellsOf 32 = 3 := by kernel_rfl
theorem cells_lns31 : Tryz.prog.cellsOf 30 = 1 := by kernel_rfl
open Go.ChangeShapes Go.WideShapes in
theorem open_do31 {H : Type} {enc : TypeId × Value → H} {w : World} {fuel : Nat} {cs : List Value} {x : DataW H × List MemPlace} (h : DataW.trod enc Tryz.prog w 0 (fun _ => true) true fuel 32 cs = some x) (hcl : cs.length = 3) :
    ∃ k : Do31, (Do31E w).ok k ∧ cs = do31V k := by
  obtain ⟨fs, hfs⟩ : ∃ fs, Tryz.prog.underlying 32 = some (.struct fs) := ⟨_, Tryz.underlying32⟩
  obtain ⟨ys, n', hn', hy, hlen, hyl, hf⟩ := DataW.trod_struct Tryz.underlying32 h
  match cs, hcl with
  | [c0, c1, c2], _ =>
    match ys, hyl with
    | [y0, y1, y2], _ =>
      have f0 : DataW.trod enc Tryz.prog w 0 (fun _ => true) true n' 3 (([c0, c1, c2].drop 0).take (Tryz.prog.cellsOf 3)) = [y0, y1, y2][0]? := hf 0 _ rfl
      rw [recInt] at f0
      have f1 : DataW.trod enc Tryz.prog w 0 (fun _ => true) true n' 3 (([c0, c1, c2].drop 1).take (Tryz.prog.cellsOf 3)) = [y0, y1, y2][1]? := hf 1 _ rfl
      rw [recInt] at f1
      have f2 : DataW.trod enc Tryz.prog w 0 (fun _ => true) true n' 30 (([c0, c1, c2].drop 2).take (Tryz.prog.cellsOf 30)) = [y0, y1, y2][2]? := hf 2 _ rfl
      rw [cells_lns31] at f2
      simp only [List.drop_zero, List.take_succ_cons, List.take_zero, List.drop_succ_cons, List.getElem?_cons_zero, List.getElem?_cons_succ] at f0 f1 f2
      obtain ⟨n0, e0, _, w0⟩ := DataW.trod_int Tryz.underlying3 f0
      obtain ⟨n1, e1, _, w1⟩ := DataW.trod_int Tryz.underlying3 f1
      simp only [List.cons.injEq, and_true] at e0 e1
      subst e0 e1
      have hin : In64 [n0, n1] := by
        intro v hv
        simp only [List.mem_cons, List.not_mem_nil, or_false] at hv
        rcases hv with rfl | rfl
        · exact rec_bounds w0
        · exact rec_bounds w1
      rcases open_lines f2 with e4 | ⟨a, len, cap, ls, e4, h1, h2, h3⟩
      · simp only [List.cons.injEq, and_true] at e4
        subst e4
        exact ⟨⟨n0, n1, none, 0, 0⟩, ⟨hin, Nat.le_refl _, Nat.zero_le _, ⟨[], RL.nil_⟩⟩, rfl⟩
      · simp only [List.cons.injEq, and_true] at e4
        subst e4
        exact ⟨⟨n0, n1, some a, len, cap⟩, ⟨hin, h1, h2, ⟨ls, h3⟩⟩, rfl⟩
theorem open_dos31 {H : Type} {enc : TypeId × Value → H} {w : World} {fuel : Nat} {cs : List Value} {x : DataW H × List MemPlace} (h : DataW.trod enc Tryz.prog w 0 (fun _ => true) true fuel 23 cs = some x) :
    cs = [.slice none 0 0] ∨ ∃ (a : Addr) (len cap : Nat) (ls : List Do31), cs = [.slice (some a) len cap] ∧ len ≤ cap ∧ cap ≤ maxLen ∧ Dos31E.R w w.heap.size (some a) len ls :=
  Enc.open_rows (E := Do31E w) (⟨0, 0, none, 0, 0⟩ : Do31) Tryz.underlying23 cells_do31 (fun n ys y hy hl => by
    obtain ⟨k, hk, e⟩ := open_do31 hy hl
    exact ⟨k, hk, e⟩) h
/-- A call at one place, in a later world: its cells, its lines. -/
theorem do31_at {w w' : World} {A : Option Addr} {n : Nat} {l : List Do31} (h : Dos31E.R w w.heap.size A n l) (hb : Below w.heap.size w w') {j : Nat} {k : Do31} (hx : l[j]? = some k) : ∃ b off, A = some ⟨b, off, none⟩ ∧ b < w.heap.size ∧ (w'.cell? ⟨b, off + j * 3, none⟩ = some (.int .i64 k.y) ∧ w'.cell? ⟨b, off + j * 3 + 1, none⟩ = some (.int .i64 k.f) ∧ w'.cell? ⟨b, off + j * 3 + 2, none⟩ = some (.slice k.a k.n k.c)) ∧ In64 [k.y, k.f] ∧ k.n ≤ k.c ∧ k.c ≤ maxLen ∧ ∃ ls, RL w' w.heap.size k.a k.n ls := by
  obtain ⟨h1, h3, h4, ⟨ls, h5⟩⟩ := h.ok k (List.mem_of_getElem? hx)
  have hj := (List.getElem?_eq_some_iff.1 hx).1
  obtain ⟨b, off, rfl, hlt, hc⟩ := h.2.2 (by rw [← h.len]; omega)
  have hz : ∀ z, z < 3 → w'.cell? ⟨b, off + j * 3 + z, none⟩ = (do31V k)[z]? := fun z hz => (hb.cell (p := ⟨b, off + j * 3 + z, none⟩) hlt).trans (hc j k hx z hz)
  exact ⟨b, off, rfl, hlt, ⟨hz 0 (by decide), hz 1 (by decide), hz 2 (by decide)⟩, h1, h3, h4, ⟨ls, h5.below hb⟩⟩
/-- Calls that are few. -/
def few31B (n : Nat) (l : List Do31) : Bool := !(decide (20 < n)) && !(decide (20 < l.length)) && l.all fun k => !(decide (20 < k.n))
theorem few31_is {n : Nat} {l : List Do31} (h : few31B n l = true) : n ≤ 20 ∧ l.length ≤ 20 ∧ ∀ k ∈ l, k.n ≤ 20 := by
  unfold few31B at h
  simp only [Bool.and_eq_true, Bool.not_eq_true', decide_eq_false_iff_not, List.all_eq_true] at h
  exact ⟨by omega, by omega, fun k hk => by have := h.2 k hk; omega⟩
set_option maxHeartbeats 3200000 in
theorem few31_any {w : World} {A A' : Option Addr} {n cap n' cap' : Nat} {l : List Do31} (hn : n ≤ maxLen) (hr : ∃ w0 : World, w0.heap.size ≤ w.heap.size ∧ Below w0.heap.size w0 w ∧ Dos31E.R w0 w0.heap.size A' n' l) (hn' : n' ≤ maxLen) :
    Calls Tryz.prog 7 #[.slice A n cap, .slice A' n' cap'] w fun e w' => e = .returned (.bool (few31B n l)) ∧ Below w.heap.size w w' := by
  obtain ⟨w0, hw0, hb0, hr⟩ := hr
  unfold maxLen at hn hn'
  have hlen := hr.len
  have HR := Lib.hid hr
  have HB0 := Lib.hid hb0
  have hfew : few31B n l = (!(decide (20 < n)) && !(decide (20 < n')) && l.all fun k => !(decide (20 < k.n))) := by unfold few31B; rw [hlen]
  have HLEN := Lib.hid hlen
  rw [hfew]
  clear hr hb0 hfew hlen
  by_cases h1 : 20 < n
  · have k1 : decide ((n : Int) > 20) = true := decide_eq_true (by omega)
    rw [decide_eq_true h1, Bool.not_true, Bool.false_and, Bool.false_and]
    clear h1
    go_enter Tryz.func7, Tryz.ntmps7
    go_wp2_with fail
    go_ret
    exact ⟨rfl, Below.refl _ _⟩
  · have k1 : decide ((n : Int) > 20) = false := decide_eq_false (by omega)
    rw [decide_eq_false h1, Bool.not_false, Bool.true_and]
    clear h1
    by_cases h2 : 20 < n'
    · have k2 : decide ((n' : Int) > 20) = true := decide_eq_true (by omega)
      rw [decide_eq_true h2, Bool.not_true, Bool.false_and]
      clear h2
      go_enter Tryz.func7, Tryz.ntmps7
      go_wp2_with fail
      go_ret
      exact ⟨rfl, Below.refl _ _⟩
    · have k2 : decide ((n' : Int) > 20) = false := decide_eq_false (by omega)
      rw [decide_eq_false h2, Bool.not_false, Bool.true_and]
      clear h2
      have E1 := Lib.hid (fun (k : Do31) (hk : k ∈ l) (h : 20 < k.n) => show (l.all fun k => !(decide (20 < k.n))) = false from List.all_eq_false.2 ⟨k, hk, by rw [decide_eq_true h]; decide⟩)
      have E2 := Lib.hid (fun (h : ∀ (m : Nat) (z : Do31), m < l.length → l[m]? = some z → ¬ 20 < z.n) => show (l.all fun k => !(decide (20 < k.n))) = true from List.all_eq_true.2 fun k hk => by
        obtain ⟨m, hm, rfl⟩ := List.getElem_of_mem hk
        rw [decide_eq_false (h m _ hm (List.getElem?_eq_getElem hm))]
        rfl)
      generalize (l.all fun k => !(decide (20 < k.n))) = bb at E1 E2 ⊢
      go_enter Tryz.func7, Tryz.ntmps7
      go_wp2_with fail
      go_loopw [17] (fun i wr => ∃ j : Nat, j ≤ n' ∧ i = .int .i64 j ∧ Hid (∀ (m : Nat) (z : Do31), m < j → l[m]? = some z → ¬ 20 < z.n) ∧ Hid (Below w.heap.size w wr)) (fun i _ => n' - (intOf i).toNat)
      case atStart => exact ⟨0, Nat.zero_le _, rfl, Lib.hid (fun m y hm => absurd hm (by omega)), Lib.hid (Below.refl _ _)⟩
      case round =>
        obtain ⟨j, hj, rfl, hbef, hbw⟩ := hrel
        by_cases hlt : j < n'
        · have hlt' : (j : Int) < (n' : Int) := by omega
          obtain ⟨k, hk⟩ : ∃ k, l[j]? = some k := ⟨_, List.getElem?_eq_getElem (by rw [HLEN.out]; exact hlt)⟩
          obtain ⟨b, off, rfl, hb, ⟨c0, c1, c2⟩, _, _, h4, _⟩ := do31_at HR.out (HB0.out.trans (hbw.out.mono hw0)) hk
          have HX := Lib.hid (show Below w.heap.size w (wr.alloc (.cells #[.int .i64 k.y, .int .i64 k.f, .slice k.a k.n k.c] 32 (0, 0))) from hbw.out.alloc hbw.out.size _)
          unfold maxLen at h4
          by_cases hbig : 20 < k.n
          · have k3 : decide ((k.n : Int) > 20) = true := decide_eq_true (by omega)
            obtain rfl := E1.out k (List.mem_of_getElem? hk) hbig
            clear hk hb h4 hbig
            go_wp2_with fail
            go_ret
            exact ⟨rfl, HX.out⟩
          · have k3 : decide ((k.n : Int) > 20) = false := decide_eq_false (by omega)
            have hn := Lib.hid (fun (m : Nat) (z : Do31) (hm : m < j + 1) => show l[m]? = some z → ¬ 20 < z.n by
              intro hz
              rcases Nat.lt_or_ge m j with h | h
              · exact hbef.out m z h hz
              · obtain rfl : m = j := by omega
                rw [hk] at hz
                cases hz
                exact hbig)
            clear hk hb h4 hbig
            go_wp2_with fail
            go_roundw
            case rel => exact ⟨j + 1, by omega, by go_num, hn, HX⟩
            case measure => simp [intOf]; omega
        · obtain rfl : j = n' := by omega
          obtain rfl := E2.out (fun m z hm => hbef.out m z (by rw [HLEN.out] at hm; exact hm))
          go_wp2_with fail
          go_ret
          exact ⟨rfl, hbw.out⟩
end Go.Proofs.YtlcbmobdokicaaaGreat

/-
  PreNew: it returns true. No condition beyond those that the statement itself says.
-/
namespace Go.Proofs.YtlcbmobdokicaaaGreat
open Go.RowKit Go.Maps
set_option maxRecDepth 100000
set_option linter.unusedVariables false

theorem RL.touched {w w' : World} {B n : Nat} {A : Option Addr} {l : List Ln} (h : RL w B A n l) {F : Nat → Prop} (hB : B ≤ w.heap.size) (ht : Touch F w w') (hF : ∀ k, F k → B ≤ k) : RL w' w'.heap.size A n l :=
  (h.below (ht.below hF hB)).more (Nat.le_trans hB ht.size)
set_option maxHeartbeats 12800000 in
theorem preNewLaw_any {w : World} {A : Option Addr} {n cap : Nat} {l : List Nd} (hr : NdE.R w w.heap.size A n l) (hcap : n ≤ cap) (hn : n ≤ maxLen) {A' : Option Addr} {n' cap' : Nat} {l' : List Do31} (hr' : Dos31E.R w w.heap.size A' n' l') (hcap' : n' ≤ cap') (hn' : n' ≤ maxLen) :
    Calls Tryz.prog 3 #[.slice A n cap, .slice A' n' cap'] w fun e w' => e = .returned (.bool true) ∧ Below w.heap.size w w' := by
  have HF := Lib.hid (few31_any (A := A) (cap := cap) (cap' := cap') hn ⟨w, Nat.le_refl _, Below.refl _ _, hr'⟩ hn')
  have HIS := Lib.hid (fun h => few31_is (n := n) (l := l') h)
  have HA := Lib.hid (fun W => awake31_any W)
  have HR := Lib.hid hr
  have HR' := Lib.hid hr'
  unfold maxLen at hn hn'
  clear hr hr'
  generalize few31B n l' = fw at HF HIS
  cases fw with
  | false =>
    clear HIS
    go_enter Tryz.func3, Tryz.ntmps3
    go_wp2_with fail
    refine HF.out.mono ?_
    rintro u w1 ⟨rfl, h1⟩
    have H1 := Lib.hid h1
    clear h1 HF
    go_wp2_with fail
    refine (HA.out w1).mono ?_
    rintro u w2 ⟨rfl, h2⟩
    have HE := Lib.hid (H1.out.trans (h2.mono H1.out.size))
    clear h2
    go_wp2_with fail
    go_ret
    exact ⟨rfl, HE.out⟩
  | true =>
  obtain ⟨q1, q2, q3⟩ := HIS.out (by first | rfl | trivial)
  have HFEW := Lib.hid (And.intro q1 (And.intro q2 q3))
  clear HIS q1 q2 q3
  go_enter Tryz.func3, Tryz.ntmps3
  go_wp2_with fail
  refine HF.out.mono ?_
  rintro u w1 ⟨rfl, h1⟩
  have HBG := Lib.hid (begun31_any (cap := cap) ((HR.out.below h1).more h1.size) (Nat.le_trans HFEW.out.1 (by omega)))
  have H1 := Lib.hid h1
  clear h1 HF HR
  go_wp2_with fail
  refine HBG.out.mono ?_
  rintro u w2 ⟨v, m, c, x, rfl, h2⟩
  have H0 := Lib.hid (show (∃ S, Duo (fun _ => False) w1 w1.heap.size (42 + 112 * 0) v m c x S S w2) ∧ w1.heap.size ≤ w2.heap.size from ⟨⟨_, h2.more (by have := HFEW.out.1; omega)⟩, h2.was.size⟩)
  clear h2 HBG
  go_wp2_with fail
  go_loopw [27] (fun iv wr => ∃ j : Nat, j ≤ n' ∧ iv = .int .i64 j ∧ Hid ((∃ S, Duo (fun _ => False) w1 w1.heap.size (42 + 112 * j) v m c x S S wr) ∧ w1.heap.size ≤ wr.heap.size)) (fun iv _ => n' - (intOf iv).toNat)
  case atStart => exact ⟨0, Nat.zero_le _, rfl, H0⟩
  case round =>
    clear H0
    obtain ⟨j, hj, rfl, HJ⟩ := hrel
    by_cases hlt : j < n'
    · have hlt' : (j : Int) < (n' : Int) := by omega
      have hj0 : (0 : Int) ≤ (j : Int) := by omega
      obtain ⟨⟨S, hdj⟩, hwr⟩ := HJ.out
      obtain ⟨k, hk⟩ : ∃ k, l'[j]? = some k := ⟨_, List.getElem?_eq_getElem (by rw [HR'.out.len]; exact hlt)⟩
      have hj20 : j < 20 := by have := HFEW.out.2.1; have := HR'.out.len; omega
      have hwas := H1.out.trans (hdj.was.mono H1.out.size)
      obtain ⟨b, off, rfl, hb, ⟨c0, c1, c2⟩, hin, hkc, hkm, ⟨ls, hls⟩⟩ := do31_at HR'.out hwas hk
      obtain ⟨wb, hwb⟩ : ∃ wb, wb = wr.alloc (.cells #[.int .i64 k.y, .int .i64 k.f, .slice k.a k.n k.c] 32 (0, 0)) := ⟨_, rfl⟩
      have hbb : Below wr.heap.size wr wb := by rw [hwb]; exact (Below.refl _ _).alloc (Nat.le_refl _) _
      have hblk : wb.heap[wr.heap.size]? = some (.cells #[.int .i64 k.y, .int .i64 k.f, .slice k.a k.n k.c] 32 (0, 0)) := by rw [hwb]; exact heap_alloc_new wr _
      have hsz : wb.heap.size = wr.heap.size + 1 := by rw [hwb]; simp
      have hown := hdj.own (Z := fun k => k = wr.heap.size) hwr hbb (fun k hk => .inr (by rw [hk]; omega))
      have hs1 := H1.out.size
      have hlsb := (hls.below (hbb.mono (Nat.le_trans hs1 hwr)))
      have HLS := Lib.hid (show ∀ W, KeptB (fun k => k = wr.heap.size) w1.heap.size wb W → RL W w1.heap.size k.a k.n ls ∧ w1.heap.size ≤ W.heap.size ∧ W.heap[wr.heap.size]? = some (.cells #[.int .i64 k.y, .int .i64 k.f, .slice k.a k.n k.c] 32 (0, 0)) from fun W hW =>
        ⟨(hlsb.below (hW.2.2.mono hs1)).more hs1, Nat.le_trans hwr (Nat.le_trans hbb.size hW.size), (hW.1 _ rfl).trans hblk⟩)
      have hsb := Nat.le_trans hwr hbb.size
      have HP := Lib.hid (hown.view (M := 42 + 112 * j + 56) (S' := (preNew S k.y ls).2) (P := fun e _ => e = .returned (.tuple #[.int .i64 (preNew S k.y ls).1.1, .bool (preNew S k.y ls).1.2.1, .int .i64 (preNew S k.y ls).1.2.2])) hsb (fun hms => many_preNew hms k.y ls) (preNew_W S k.y ls) (by omega) (fun X hX hmx hXB => (preNew_any (cap := k.c) hX (y := k.y) (hin _ (by simp)) (fun W hW => (hlsb.more hs1).touched hsb hW (fun q hq => by rw [hq]; exact hXB _ hX.xc)) hkc (Nat.le_trans hkc hkm) (by have := hmx.len; omega)).mono fun e w' ⟨a, b, c⟩ => ⟨a, b, c⟩))
      have HY := Lib.hid (And.intro (hin k.y (by simp)) (And.intro hkc hkm))
      have HN := Lib.hid (show 42 + 112 * (j + 1) ≤ 20000 by omega)
      clear hdj hwr hk hwas hb hin hkc hkm hls hbb hblk hsz hown hlsb hsb HJ
      obtain ⟨R, hR⟩ : ∃ R, R = preNew S k.y ls := ⟨_, rfl⟩
      have HRR := Lib.hid hR
      rw [← hR] at HP
      clear hR
      obtain ⟨⟨ra, rb, re⟩, RS⟩ := R
      obtain ⟨ky, kf, ka, kn, kc⟩ := k
      simp only at HP HLS HY HRR hwb c0 c1 c2
      go_wp2_with fail
      rw [← hwb]
      clear hwb c0 c1 c2
      refine HP.out.mono ?_
      rintro u w5 ⟨rfl, h5, k5⟩
      obtain ⟨hl5, hs5, hk5⟩ := HLS.out w5 k5
      have y0 : w5.cell? ⟨wr.heap.size, 0, none⟩ = some (.int .i64 ky) := by rw [cell_of_row w5 _ 0 _ _ (0, 0) hk5]; rfl
      have y2 : w5.cell? ⟨wr.heap.size, 2, none⟩ = some (.slice ka kn kc) := by rw [cell_of_row w5 _ 2 _ _ (0, 0) hk5]; rfl
      have HQ := Lib.hid (h5.ref (M := 42 + 112 * (j + 1)) (P := fun e _ T' => e = .returned (.tuple #[.int .i64 ra, .bool rb, .int .i64 re]) ∧ (re = 0 → T' = RS)) hs5 (by omega) (fun X p q r a hX hmx hB => (rPreNew_any (cap := kc) hX hmx (by omega) ky HY.out.1 (l := ls) (fun W hW => hl5.touched hs5 hW (fun z hz => by
        have ho := hX.own
        rcases hz with hz | hz
        · rw [hz]; exact hB _ ho.1
        · rw [hz]; exact hB _ ho.2)) (Nat.le_trans HY.out.2.1 HY.out.2.2)).mono fun e w' ⟨T, a1, a2, a3, a4, a5, a6⟩ => by
        rw [← HRR.out] at a1 a2
        exact ⟨T, ⟨a1, a2⟩, a3.more (by omega), a4.more (by omega), a5, a6⟩))
      have HK5 := Lib.hid k5
      clear h5 k5 hl5 hs5 hk5 HP
      go_wp2_with fail
      refine HQ.out.mono ?_
      rintro u w6 ⟨T, ⟨rfl, hT⟩, h6, k6⟩
      have k56 := HK5.out.trans k6
      obtain ⟨hl6, hs6, hk6⟩ := HLS.out w6 k56
      have hd6 := (Below.refl w6.heap.size w6).drew
      have hw6d : w6.heap.size ≤ w6.drew.heap.size := hd6.size
      have HPC := Lib.hid (preCheck_any (w := w6.drew) kc ((hl6.below (hd6.mono hs6))) (Nat.le_trans HY.out.2.1 HY.out.2.2) (Nat.le_trans hs6 hw6d))
      have HRC := Lib.hid (show ∀ W, Below w6.drew.heap.size w6.drew W → Calls Tryz.prog 13 #[.slice ka kn kc] W fun e w' => e = .returned (.int .i64 (preChk ls)) ∧ W = w' from fun W hW => rPreCheck_any kc (hl6.below ((hd6.trans (hW.mono hw6d)).mono hs6)) (Nat.le_trans HY.out.2.1 HY.out.2.2))
      have HEN := Lib.hid (show ∀ W, Below w6.drew.heap.size w6.drew W → Calls Tryz.prog 14 #[.pointer (some ⟨v, 0, none⟩), .pointer (some ⟨x, 0, none⟩), .int .i64 re] W fun u w' => u = .returned (.bool true) ∧ (∃ S, Duo (fun k => k = wr.heap.size) w1 w1.heap.size (42 + 112 * (j + 1)) v m c x S S w') ∧ KeptB (fun k => k = wr.heap.size) w1.heap.size wb w' from fun W hW => by
        have hbW := hd6.trans (hW.mono hw6d)
        have hkW : KeptB (fun k => k = wr.heap.size) w1.heap.size w6 W := KeptB.of_below h6.old hs6 hbW
        refine (end31_any (h6.below hs6 hbW) (Nat.le_trans hs6 hbW.size) (by have := HN.out; omega) re hT).mono ?_
        rintro u w' ⟨rfl, ⟨U, _, _, hU⟩, hk⟩
        exact ⟨rfl, ⟨U, hU⟩, k56.trans (hkW.trans hk)⟩)
      have HCL := Lib.hid (show ∀ W, KeptB (fun k => k = wr.heap.size) w1.heap.size wb W → W.cell? ⟨wr.heap.size, 2, none⟩ = some (.slice ka kn kc) from fun W hW => by rw [cell_of_row W _ 2 _ _ (0, 0) (HLS.out W hW).2.2]; rfl)
      have hkd : KeptB (fun k => k = wr.heap.size) w1.heap.size wb w6.drew := k56.trans (KeptB.of_below h6.old hs6 hd6)
      have HKD := Lib.hid (show ∀ W, Below w6.drew.heap.size w6.drew W → KeptB (fun k => k = wr.heap.size) w1.heap.size wb W from fun W hW => k56.trans (KeptB.of_below h6.old hs6 (hd6.trans (hW.mono hw6d))))
      have c5 := HCL.out _ hkd
      clear h6 k6 k56 hl6 hs6 hk6 hd6 hw6d hT hkd HK5 HQ y0 y2 HLS
      generalize preChk ls = pc at HPC HRC
      go_wp2_with fail
      go_region_held3 (fun W => W.cell? ⟨wr.heap.size, 2, none⟩ = some (.slice ka kn kc))
        (first | with_reducible exact c5 | exact c5)
        (first
          | (go_at_call 12; refine Calls.mono HPC.out ?_; rintro e w8 ⟨rfl, hb8⟩; have c5 := HCL.out _ (HKD.out _ hb8))
          | (go_at_call 13; refine Calls.mono (HRC.out _ hb8) ?_; rintro e w9 ⟨rfl, rfl⟩)
          | (go_at_call 14; refine Calls.mono (HEN.out _ hb8) ?_; rintro e w9 ⟨rfl, hU, hK⟩; have c5 := HCL.out _ hK))
      have HJ := Lib.hid (show (∃ S, Duo (fun _ => False) w1 w1.heap.size (42 + 112 * (j + 1)) v m c x S S w9) ∧ w1.heap.size ≤ w9.heap.size from by
        obtain ⟨U, hU⟩ := hU
        exact ⟨⟨U, hU.own hU.was.size (Below.refl _ _) (fun k hk => hk.elim)⟩, hU.was.size⟩)
      clear hU hK c5 HPC HRC HEN HCL HKD hb8
      go_wp2_with fail
      go_roundw
      case rel => exact ⟨j + 1, by omega, by go_num, HJ⟩
      case measure => simp [intOf]; omega
    · obtain rfl : j = n' := by omega
      have hw := (HJ.out.1.choose_spec).was
      have HB := Lib.hid (H1.out.trans (hw.mono H1.out.size))
      have HAW := Lib.hid (HA.out wr)
      clear hw HJ
      go_wp2_with fail
      refine HAW.out.mono ?_
      rintro u w2 ⟨rfl, h2⟩
      have HE := Lib.hid (HB.out.trans (h2.mono HB.out.size))
      clear h2
      go_wp2_with fail
      go_ret
      exact ⟨rfl, HE.out⟩
end Go.Proofs.YtlcbmobdokicaaaGreat
