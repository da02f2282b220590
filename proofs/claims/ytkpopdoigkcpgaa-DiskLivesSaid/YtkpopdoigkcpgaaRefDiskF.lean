/-
  The plain disk's calls by contract: New, Read, Fuse. No condition beyond the numbers' bounds.
-/
import Derived.Test.YtkpopdoigkcpgaaRefDiskP
import Derived.Laws.CopyOwn
namespace Go.Proofs.Ytkpopdoigkcpgaa
open Go.RowKit
set_option linter.unusedVariables false

theorem infoU8 : (Try.prog.info? 5).map (fun i => (i.zero, i.size, i.bytes)) = some (some (.int .u8 0), 1, 1) := by kernel_rfl

/-- A row of n noughts of the call's own. -/
def Blank (w : World) (g N : Nat) (cur : List Value) : Prop := w.heap[g]? = some (.cells cur.toArray 5 (0, 0)) ∧ cur = List.replicate N (Value.int .u8 0)
theorem blank_new (w : World) (N : Nat) : Blank (w.alloc (.cells (madeCells #[.int .u8 0] N) 5)) w.heap.size N (madeCells #[.int .u8 0] N).toList := by
  refine ⟨by simpa using heap_alloc_new w _, ?_⟩
  apply List.ext_getElem?
  intro i
  by_cases hi : i < N
  · simp [madeCells, hi, Nat.mod_one]
  · simp [madeCells, hi]
theorem blank_get {w : World} {g N n : Nat} {cur : List Value} {l : List Int} (hcur : cur = List.replicate N (Value.int .u8 0)) (hl : l.length = n) (hn : n ≤ N)
    (hh : w.heap[g]? = some (.cells (splice cur 0 (l.map (Value.int .u8))).toArray 5 (0, 0))) (j : Nat) (hj : j < N) : w.cell? ⟨g, j, none⟩ = some (.int .u8 (l[j]?.getD 0)) := by
  subst hcur
  rw [cell_of_row w g j _ _ _ hh]
  by_cases h : j < n
  · simp [splice, List.getElem?_append, hl, h]
  · have e1 : l[j]? = none := List.getElem?_eq_none (by omega)
    rw [e1]
    have hj2 : j - n < N - n := by omega
    simp [splice, List.getElem?_append, hl, h, hj2]
theorem blank_read {w : World} {g : Nat} {cur : List Value} {l m : List Int} {n : Nat} (hcur : cur = List.replicate 256 (Value.int .u8 0)) (hl : l.length = n) (hb : AllBytes l) (h : (n = 0 ∧ m = nought) ∨ (n = 256 ∧ l = m))
    (hh : w.heap[g]? = some (.cells (splice cur 0 (l.map (Value.int .u8))).toArray 5 (0, 0))) : RB w w.heap.size (some ⟨g, 0, none⟩) 256 m := by
  have hlt : g < w.heap.size := by
    rcases Nat.lt_or_ge g w.heap.size with h' | h'
    · exact h'
    · rw [Array.getElem?_eq_none h'] at hh; cases hh
  have hget := blank_get hcur hl (by omega) hh
  have hm : m.length = 256 ∧ AllBytes m := by
    rcases h with ⟨rfl, rfl⟩ | ⟨rfl, rfl⟩
    · exact nought_ok
    · exact ⟨hl, hb⟩
  refine ⟨hm.1, hm.2, fun _ => ⟨g, 0, rfl, hlt, fun j hj => ?_⟩⟩
  rw [Nat.zero_add, hget j hj]
  rcases h with ⟨rfl, rfl⟩ | ⟨rfl, rfl⟩
  · obtain rfl : l = [] := List.eq_nil_of_length_eq_zero hl
    have : nought[j]?.getD 0 = 0 := reps_getD (n := 256) (c := 0) hj
    rw [this]; rfl
  · rfl

set_option maxHeartbeats 800000 in
theorem full_any {A : Option Addr} {n : Nat} (c : Nat) {B : Nat} {l m : List Int} {w : World} (hr : RB w B A n l) (hB : B ≤ w.heap.size) (h : (n = 0 ∧ m = nought) ∨ (n = 256 ∧ l = m)) :
    Calls Try.prog 46 #[.slice A n c] w fun e w' => ∃ g, e = .returned (.slice (some ⟨g, 0, none⟩) 256 256) ∧ RB w' w'.heap.size (some ⟨g, 0, none⟩) 256 m ∧ Below w.heap.size w w' := by
  have hmk : ∀ w : World, (Instr.makeSlice 45 (.int .i64 256) (.int .i64 256)).run Try.prog w = .ok (.slice (some ⟨w.heap.size, 0, none⟩) 256 256) (w.alloc (.cells (madeCells #[.int .u8 0] 256) 5)) := fun w =>
    run_make_row' 45 5 (.int .u8 0) 1 Try.underlying45 infoU8 rfl .i64 .i64 256 (by decide) (by decide) w
  have hn : n ≤ 256 := by omega
  have hlen := hr.len
  have HBL := Lib.hid (blank_new w 256).1
  have HBL2 := Lib.hid (blank_new w 256).2
  have HR := Lib.hid (hr.alloc hB (.cells (madeCells #[.int .u8 0] 256) 5))
  have HSRC := Lib.hid (show 0 < (l.map (Value.int .u8)).length → ∃ ad, A = some ad ∧ ∀ j v, (l.map (Value.int .u8))[j]? = some v → (w.alloc (.cells (madeCells #[.int .u8 0] 256) 5)).cell? (ad.add j) = some v from fun hp => by
    rw [List.length_map, hlen] at hp
    obtain ⟨b, off, e, _⟩ := hr.at_ hp
    subst e
    refine ⟨_, rfl, fun j v hj => ?_⟩
    obtain ⟨ad, e, hc⟩ := HR.out.src j v hj
    cases e
    exact hc)
  have HB1 := Lib.hid ((Below.refl w.heap.size w).alloc (Nat.le_refl _) (.cells (madeCells #[.int .u8 0] 256) 5))
  have hmin : (l.map (Value.int .u8)).length = Nat.min n 256 := by rw [List.length_map, hlen]; exact (Nat.min_eq_left hn).symm
  have hfit : 0 + (l.map (Value.int .u8)).length ≤ (madeCells #[Value.int .u8 0] 256).toList.length := by rw [List.length_map, hlen, Array.length_toList, size_madeCells]; omega
  go_enter Try.func46, Try.ntmps46
  generalize madeCells #[Value.int .u8 0] 256 = mc at hmk HBL HBL2 HR HB1 hfit HSRC
  go_wp2_with (with_reducible refine wpList_copy_splice rfl (.tmp 5) (.tmp 6) 45 45 rfl 5 Try.underlying45 size_u8' _ _ _ _ _ _ rfl rfl w.heap.size 0 mc.toList 5 HBL.out (l.map (Value.int .u8)) hmin (fun hp => ⟨rfl, HSRC.out hp⟩) hfit (oneCell_bytes l) w.heap.size w HB1.out (Nat.le_refl _) ?_; intro w2 hblk2 hb2)
  have HE := Lib.hid (blank_read HBL2.out hlen hr.bytes h hblk2.out)
  clear HBL HBL2 HR HB1 HSRC hblk2 hmk
  go_ret
  exact ⟨_, rfl, HE.out, hb2⟩

section
variable {w : World} {G : Nat → Prop} {x : Addr} {S : DS}

/-- What a sector's value reads as, for full. -/
theorem SecV.read {gx gl : Nat} {v : Value} {l : List Int} (hl : l.length = 256 ∧ AllBytes l) (h : SecV w G gx gl v l) (hG : ∀ k, G k → k < w.heap.size) : ∃ (A : Option Addr) (n c : Nat) (l' : List Int), v = .slice A n c ∧ n ≤ c ∧ RB w w.heap.size A n l' ∧ ((n = 0 ∧ l = nought) ∨ (n = 256 ∧ l' = l)) := by
  rcases h with ⟨e, hn⟩ | ⟨b, off, c, e, hc, hb, _, _, hcell⟩
  · exact ⟨none, 0, 0, [], e, Nat.le_refl _, RB.nil_, .inl ⟨rfl, hn⟩⟩
  · exact ⟨_, 256, c, l, e, hc, ⟨hl.1, hl.2, fun _ => ⟨b, off, rfl, hG b hb, hcell⟩⟩, .inr ⟨rfl, rfl⟩⟩

set_option maxHeartbeats 800000 in
theorem refRead_any (h : RefAt w G x S) (i : Int) : Calls Try.prog 30 #[.pointer (some x), .int .i64 i] w fun e w' => ∃ (A : Option Addr) (n c : Nat), e = .returned (.tuple #[.slice A n c, .int .i64 (S.readE i)]) ∧ n ≤ c ∧ RB w' w'.heap.size A n (S.readL i) ∧ Below w.heap.size w w' := by
  obtain ⟨gx, gl, rfl, h0, hok, _⟩ := h
  have hlt := h0.lt
  obtain ⟨h1, h2, h3, h4, f, h5, h6, h7⟩ := h0
  have c0 : w.cell? ⟨gx, 0, none⟩ = some (.slice (some ⟨gl, 0, none⟩) S.n S.n) := h4.cell (i := 0) (by decide)
  have c5 : w.cell? ⟨gx, 5, none⟩ = some (.bool S.down) := h4.cell (i := 5) (by decide)
  have hsz := hok.size
  by_cases hd : S.down = true
  · have hre : S.readE i = 5 := by unfold DS.readE; rw [if_pos hd]
    have hrl : S.readL i = [] := by unfold DS.readL; rw [if_neg (by rw [hre]; decide)]
    rw [hre, hrl]
    rw [hd] at c5
    clear hre hrl hd h4 h5 h6 h7 hok
    go_enter Try.func30, Try.ntmps30
    go_wp2
    go_ret2
    exact ⟨none, 0, 0, rfl, Nat.le_refl _, RB.nil_, Below.refl _ _⟩
  · have hd' : S.down = false := by simpa using hd
    rw [hd'] at c5
    by_cases hh : S.has i
    · have hre : S.readE i = 0 := by unfold DS.readE; rw [if_neg hd, if_pos hh]
      have hrl : S.readL i = S.last i.toNat := by unfold DS.readL; rw [if_pos hre]
      rw [hre, hrl]
      obtain ⟨q, rfl⟩ : ∃ q : Nat, i = q := Int.eq_ofNat_of_zero_le hh.1
      have hq : q < S.n := by have := hh.2; omega
      have hq' : (q : Int) < (S.n : Int) := by omega
      rw [Int.toNat_natCast]
      obtain ⟨A, n, c, l', hv, hnc, hr, hl'⟩ := (h6 q hq).2.1.read (hok.lastBytes q) hlt
      have z := h5.cell (i := q * 3 + 1) (by omega)
      rw [hv] at z
      have HR := Lib.hid hr
      have HL := Lib.hid hl'
      clear hre hrl hd hd' hh h4 h5 h6 h7 hok hr hl' hv
      go_enter Try.func30, Try.ntmps30
      go_wp2_with fail
      refine (full_any c HR.out (Nat.le_refl _) HL.out).mono ?_
      rintro e w' ⟨g, rfl, hg, hb⟩
      go_wp2
      go_ret2
      exact ⟨_, 256, 256, rfl, Nat.le_refl _, hg, hb⟩
    · have hre : S.readE i = 1 := by unfold DS.readE; rw [if_neg hd, if_neg hh]
      have hrl : S.readL i = [] := by unfold DS.readL; rw [if_neg (by rw [hre]; decide)]
      rw [hre, hrl]
      have hcase : i < 0 ∨ (S.n : Int) ≤ i := by unfold DS.has at hh; omega
      clear hre hrl hd hd' h4 h5 h6 h7 hok hh
      by_cases hi : i < 0
      · go_enter Try.func30, Try.ntmps30
        go_wp2
        go_ret2
        exact ⟨none, 0, 0, rfl, Nat.le_refl _, RB.nil_, Below.refl _ _⟩
      · have hi' : (S.n : Int) ≤ i := by omega
        have hi0 : 0 ≤ i := by omega
        clear hcase
        go_enter Try.func30, Try.ntmps30
        go_wp2
        go_ret2
        exact ⟨none, 0, 0, rfl, Nat.le_refl _, RB.nil_, Below.refl _ _⟩
end

theorem infoOne : (Try.prog.info? 67).map (fun i => (i.zero, i.size, i.bytes)) = some (some (.agg #[.slice none 0 0, .slice none 0 0, .int .i64 0]), 3, 56) := by kernel_rfl
def oneZero : Array Value := #[.slice none 0 0, .slice none 0 0, .int .i64 0]
theorem make_ones (n : Nat) (hn : n ≤ 65536) (w : World) : (Instr.makeSlice 39 (.int .i64 (n : Int)) (.int .i64 (n : Int))).run Try.prog w = .ok (.slice (some ⟨w.heap.size, 0, none⟩) n n) (w.alloc (.cells (madeCells oneZero (n * 3)) 67)) := by
  obtain ⟨i, hi, hzz⟩ := Option.map_eq_some_iff.1 infoOne
  simp only [Prod.mk.injEq] at hzz
  obtain ⟨hz, hs, hb⟩ := hzz
  have hr := run_make (P := Try.prog) w 39 67 i _ Try.underlying39 hi hz .i64 .i64 n n (by omega) (Int.le_refl _) (by rw [hb]; omega) (by omega)
  simp only [Int.toNat_natCast, hs] at hr
  exact hr
theorem made_ones (w : World) (n : Nat) : (w.alloc (.cells (madeCells oneZero (n * 3)) 67)).rowIs w.heap.size 67 (n * 3) (fun o => if o % 3 = 2 then .int .i64 0 else .slice none 0 0) := by
  have := World.rowIs_alloc w (madeCells oneZero (n * 3)) 67 (fun o => if o % 3 = 2 then .int .i64 0 else .slice none 0 0) (fun o ho => by
    rw [size_madeCells] at ho
    simp only [madeCells, Array.getElem?_map, Array.getElem?_range, ho, if_true, Option.map_some, Option.some.injEq]
    have h3 : o % 3 = 0 ∨ o % 3 = 1 ∨ o % 3 = 2 := by omega
    have hs : oneZero.size = 3 := rfl
    rw [hs]
    rcases h3 with h | h | h <;> rw [h] <;> rfl)
  rwa [size_madeCells] at this

theorem ref_new (w : World) (n : Nat) (hn : 3 ≤ n ∧ n ≤ 65536) :
    RefAt ((w.alloc (.cells (madeCells oneZero (n * 3)) 67)).alloc (.cells #[.slice (some ⟨w.heap.size, 0, none⟩) n n, .int .i64 0, .int .i64 0, .int .i64 0, .bool false, .bool false] 41)) (fun k => k = w.heap.size ∨ k = w.heap.size + 1) ⟨w.heap.size + 1, 0, none⟩ (DS.new n) := by
  refine ⟨w.heap.size + 1, w.heap.size, rfl, ⟨by omega, .inr rfl, .inl rfl, ?_, _, (made_ones w n).alloc _, fun i hi => ?_, fun k hk => ?_⟩, DS.new_ok hn, Nat.zero_le _⟩
  · have := World.rowIs_alloc (w.alloc (.cells (madeCells oneZero (n * 3)) 67)) #[.slice (some ⟨w.heap.size, 0, none⟩) n n, .int .i64 0, .int .i64 0, .int .i64 0, .bool false, .bool false] 41 (refHead w.heap.size (DS.new n)) (fun i hi => by
      match i, hi with
      | 0, _ => rfl
      | 1, _ => rfl
      | 2, _ => rfl
      | 3, _ => rfl
      | 4, _ => rfl
      | 5, _ => rfl)
    simpa using this
  · refine ⟨.inl ⟨if_neg (by omega), rfl⟩, .inl ⟨if_neg (by omega), rfl⟩, ?_⟩
    rw [if_pos (by omega)]
    rfl
  · simp
    omega

set_option maxHeartbeats 800000 in
theorem refNew_any (n : Int) (w : World) (hn : 3 ≤ n ∧ n ≤ 65536) : Calls Try.prog 9 #[.int .i64 n] w fun e w' => ∃ (x : Addr) (G : Nat → Prop), e = .returned (.tuple #[.pointer (some x), .int .i64 0]) ∧ RefAt w' G x (DS.new n.toNat) ∧ Below w.heap.size w w' ∧ ∀ k, G k → w.heap.size ≤ k := by
  obtain ⟨q, rfl⟩ : ∃ q : Nat, n = q := Int.eq_ofNat_of_zero_le (by omega)
  rw [Int.toNat_natCast]
  have hmk := make_ones q (by omega)
  have HN := Lib.hid (ref_new w q (by omega))
  have HB := Lib.hid (((Below.refl w.heap.size w).alloc (Nat.le_refl _) (.cells (madeCells oneZero (q * 3)) 67)).alloc (by simp) (.cells #[.slice (some ⟨w.heap.size, 0, none⟩) q q, .int .i64 0, .int .i64 0, .int .i64 0, .bool false, .bool false] 41))
  have k1 : decide ((q : Int) < 3) = false := by simp; omega
  have k2 : decide ((q : Int) > 65536) = false := by simp; omega
  generalize madeCells oneZero (q * 3) = mc at hmk HN HB
  clear hn
  go_enter Try.func9, Try.ntmps9
  go_wp2
  go_ret2
  refine ⟨_, _, rfl, HN.out, HB.out, fun k hk => ?_⟩
  omega

set_option maxHeartbeats 800000 in
theorem refNew_no (n : Int) (w : World) (hn : ¬ (3 ≤ n ∧ n ≤ 65536)) : Calls Try.prog 9 #[.int .i64 n] w fun e w' => e = .returned (.tuple #[.pointer none, .int .i64 1]) ∧ w = w' := by
  by_cases h : n < 3
  · have k1 : decide (n < 3) = true := by simpa using h
    clear hn
    go_enter Try.func9, Try.ntmps9
    go_wp2
    go_ret2
    exact ⟨rfl, rfl⟩
  · have k1 : decide (n < 3) = false := by simpa using h
    have k2 : decide (n > 65536) = true := by simp; omega
    clear hn
    go_enter Try.func9, Try.ntmps9
    go_wp2
    go_ret2
    exact ⟨rfl, rfl⟩

theorem Ref0.cell {w : World} {G : Nat → Prop} {gx gl n : Nat} {hd : Nat → Value} {sf lf : Nat → List Int} {tf : Nat → Nat} (h : Ref0 w G gx gl hd n sf lf tf) {o : Nat} (ho : o < 6) : w.cell? ⟨gx, o, none⟩ = some (hd o) := h.2.2.2.1.cell ho
theorem Ref0.frozen {w : World} {G : Nat → Prop} {gx gl n : Nat} {hd : Nat → Value} {sf lf : Nat → List Int} {tf : Nat → Nat} (h : Ref0 w G gx gl hd n sf lf tf) (o : Nat) : w.frozen? ⟨gx, o, none⟩ = false := h.2.2.2.1.frozen o

theorem Touch.set {F : Nat → Prop} {w w' : World} (h : Touch F w w') {b : Nat} (hb : F b) (o : Nat) (v : Value) : Touch F w (w'.setCell ⟨b, o, none⟩ v) :=
  ⟨h.os, h.tape, h.output, by simpa using h.size, fun k hk hF => (Below.heap_setCell w' ⟨b, o, none⟩ v k (fun e => hF (by rw [show k = b from e]; exact hb))).trans (h.block k hk hF)⟩
theorem Touch.drew {F : Nat → Prop} {w w' : World} (h : Touch F w w') : Touch F w w'.drew := ⟨h.os, h.tape, h.output, h.size, h.block⟩
theorem Touch.trans {F : Nat → Prop} {w w' w'' : World} (h : Touch F w w') (h' : Touch F w' w'') : Touch F w w'' :=
  ⟨h'.os.trans h.os, h'.tape.trans h.tape, h'.output.trans h.output, Nat.le_trans h.size h'.size, fun k hk hF => (h'.block k (Nat.lt_of_lt_of_le hk h.size) hF).trans (h.block k hk hF)⟩
theorem Touch.mono {F F' : Nat → Prop} {w w' : World} (h : Touch F w w') (hF : ∀ k, k < w.heap.size → F k → F' k) : Touch F' w w' := ⟨h.os, h.tape, h.output, h.size, fun k hk hf => h.block k hk (fun hh => hf (hF k hk hh))⟩

set_option maxHeartbeats 800000 in
theorem refFuse_any {w : World} {G : Nat → Prop} {x : Addr} {S : DS} (h : RefAt w G x S) (i : Int) (hi : -9223372036854775808 ≤ i ∧ i ≤ 9223372036854775807) :
    Calls Try.prog 32 #[.pointer (some x), .int .i64 i] w fun e w' => e = .returned (.tuple #[]) ∧ RefAt w' G x (S.fuse i) ∧ Touch G w w' := by
  obtain ⟨gx, gl, rfl, h0, hok, ha⟩ := h
  have c3 : w.cell? ⟨gx, 3, none⟩ = some (.int .i64 (S.arm.getD 0 : Nat)) := h0.cell (o := 3) (by decide)
  have c4 : w.cell? ⟨gx, 4, none⟩ = some (.bool S.arm.isSome) := h0.cell (o := 4) (by decide)
  have f3 := h0.frozen 3
  have f4 := h0.frozen 4
  have hG := h0.2.1
  have key : ∀ (b : Bool) (m : Nat), m ≤ 9223372036854775807 → (b = (S.fuse i).arm.isSome) → m = (S.fuse i).arm.getD 0 → RefAt ((w.setCell ⟨gx, 4, none⟩ (.bool b)).setCell ⟨gx, 3, none⟩ (.int .i64 (m : Int))) G ⟨gx, 0, none⟩ (S.fuse i) := by
    intro b m hm hb1 hm1
    refine ⟨gx, gl, rfl, ((h0.head 4 (.bool b)).head 3 (.int .i64 (m : Int))).congrHead (fun j hj => ?_), DS.fuse_ok hok i, by rw [← hm1]; exact hm⟩
    match j, hj with
    | 0, _ => rfl
    | 1, _ => rfl
    | 2, _ => rfl
    | 3, _ => simp [refHead, hm1]
    | 4, _ => simp [refHead, hb1]
    | 5, _ => rfl
  have ht : ∀ u v : Value, Touch G w ((w.setCell ⟨gx, 4, none⟩ u).setCell ⟨gx, 3, none⟩ v) := fun u v => ((Touch.refl G w).set hG 4 u).set hG 3 v
  by_cases hneg : i < 0
  · have k1 : decide (i ≥ 0) = false := by simp; omega
    have hmax : max i 0 = 0 := by omega
    have e : (S.fuse i).arm = none := if_pos hneg
    have K := Lib.hid (key false 0 (by decide) (by rw [e]; rfl) (by rw [e]; rfl))
    have HT := Lib.hid ht
    clear key ht h0
    go_enter Try.func32, Try.ntmps32
    go_wp2
    go_end0
    exact ⟨rfl, K.out, HT.out _ _⟩
  · obtain ⟨m, rfl⟩ : ∃ m : Nat, i = m := Int.eq_ofNat_of_zero_le (by omega)
    have k1 : decide ((m : Int) ≥ 0) = true := by simp
    have hmax : max (m : Int) 0 = m := by omega
    have e : (S.fuse (m : Int)).arm = some m := by show (if (m : Int) < 0 then none else some (m : Int).toNat) = _; rw [if_neg hneg]; simp
    have K := Lib.hid (key true m (by omega) (by rw [e]; rfl) (by rw [e]; rfl))
    have HT := Lib.hid ht
    clear key ht h0
    go_enter Try.func32, Try.ntmps32
    go_wp2
    go_end0
    exact ⟨rfl, K.out, HT.out _ _⟩

end Go.Proofs.Ytkpopdoigkcpgaa
