/-
  The texts MetaP, MetaA, MetaB, MetaC joined. Conditions: those that each part says at its head.
-/
import Derived.Test.YtfbljmkjiaklfaaGreatDoorG2
import Derived.Test.YtfbljmkjiaklfaaGreatDoorG3
import Derived.Test.YtfbljmkjiaklfaaGreatDoorG22
import Derived.Test.YtfbljmkjiaklfaaGreatDoorG1
import Derived.Test.YtfbljmkjiaklfaaGreatDoorG7
import Derived.Deep.RegionHeld3
import Derived.Lib.BufferWrite

/-
  Plain: what a store knows of itself, as a page, as the document says. No program.
-/
namespace Go.Proofs.YtfbljmkjiaklfaaGreatDoor
open Go.RowKit
set_option maxRecDepth 100000
set_option linter.unusedVariables false

/-- A store's words of itself: depth, free, next, count, directory. -/
structure MV where
  d : Int
  f : Int
  n : Int
  c : Int
  l : List Int
def MV.zero : MV := ⟨0, 0, 0, 0, []⟩
/-- Numbers one behind the other, k bytes each. -/
def numsL (k : Nat) : List Int → List Int
  | [] => []
  | x :: r => putB x k ++ numsL k r
theorem numsL_length (k : Nat) : ∀ l : List Int, (numsL k l).length = k * l.length
  | [] => rfl
  | x :: r => by
    show (putB x k ++ numsL k r).length = _
    rw [List.length_append, putB_length, numsL_length k r, List.length_cons, Nat.mul_add]
    omega
theorem numsL_append (k : Nat) : ∀ l m : List Int, numsL k (l ++ m) = numsL k l ++ numsL k m
  | [], m => rfl
  | x :: r, m => by
    show putB x k ++ numsL k (r ++ m) = putB x k ++ numsL k r ++ numsL k m
    rw [numsL_append k r m, List.append_assoc]
theorem numsL_bytes (k : Nat) : ∀ l : List Int, AllBytes (numsL k l)
  | [] => AllBytes.nil
  | x :: r => AllBytes.append (putB_bytes x k) (numsL_bytes k r)
/-- Each may stand in a page. -/
def fitB (l : List Int) : Bool := l.all fun x => rightB x 4
def mayB (m : MV) : Bool := decide (0 ≤ m.d) && decide (m.d ≤ 10) && decide (1 ≤ m.l.length) && decide (m.l.length ≤ 20) && fitB [m.f, m.n, m.c] && fitB m.l
def headL : List Int := [69, 88, 67, 72]
/-- What stands in a page ahead of the noughts. -/
def frontL (m : MV) : List Int := headL ++ numsL 1 [m.d, (m.l.length : Int)] ++ numsL 4 [m.f, m.n, m.c] ++ numsL 4 m.l
def metaL (m : MV) : List Int := frontL m ++ List.replicate (240 - (frontL m).length) 0
def putM (m : MV) : List Int × Int := if mayB m = true then (metaL m, 0) else ([], 1)
/-- The number that stands in a page. -/
def at_ (data : List Int) (a s : Int) : Int := (getR data a s).1
def cutL (data : List Int) (a s : Int) : Nat → List Int
  | 0 => []
  | k + 1 => cutL data a s k ++ [at_ data (a + k * s) s]
/-- What stands in a page where it should, with so many in the directory. -/
def readM (data : List Int) (k : Nat) : MV := ⟨at_ data 4 1, at_ data 6 4, at_ data 10 4, at_ data 14 4, cutL data 18 4 k⟩
def countM (data : List Int) : Nat := (data[5]?.getD 0).toNat
def isMeta (data : List Int) : Prop := data.length = 240 ∧ mayB (readM data (countM data)) = true ∧ metaL (readM data (countM data)) = data
instance (data : List Int) : Decidable (isMeta data) := by unfold isMeta; infer_instance
def parseM (data : List Int) : MV × Int := if isMeta data then (readM data (countM data), 0) else (MV.zero, 4)
def sameB (a b : MV) : Bool := decide (a.d = b.d) && decide (a.f = b.f) && decide (a.n = b.n) && decide (a.c = b.c) && decide (a.l = b.l)
theorem sameB_iff {a b : MV} : sameB a b = true ↔ a = b := by
  unfold sameB
  cases a; cases b
  simp [and_assoc]
theorem sameB_self (a : MV) : sameB a a = true := sameB_iff.2 rfl

theorem frontL_length (m : MV) : (frontL m).length = 18 + 4 * m.l.length := by
  unfold frontL
  simp only [List.length_append, numsL_length, List.length_cons, List.length_nil]
  show 4 + 1 * 2 + 4 * 3 + 4 * m.l.length = _
  omega
theorem frontL_bytes (m : MV) : AllBytes (frontL m) := by
  unfold frontL
  refine AllBytes.append (AllBytes.append (AllBytes.append ?_ (numsL_bytes _ _)) (numsL_bytes _ _)) (numsL_bytes _ _)
  intro x hx
  unfold headL at hx
  simp at hx
  omega
theorem metaL_bytes (m : MV) : AllBytes (metaL m) := AllBytes.append (frontL_bytes m) fun x hx => by
  obtain rfl := (List.mem_replicate.1 hx).2
  decide
theorem may_few {m : MV} (h : mayB m = true) : (0 ≤ m.d ∧ m.d ≤ 10) ∧ (1 ≤ m.l.length ∧ m.l.length ≤ 20) ∧ fitB [m.f, m.n, m.c] = true ∧ fitB m.l = true := by
  unfold mayB at h
  simp only [Bool.and_eq_true, decide_eq_true_eq] at h
  exact ⟨⟨h.1.1.1.1.1, h.1.1.1.1.2⟩, ⟨h.1.1.1.2, h.1.1.2⟩, h.1.2, h.2⟩
theorem metaL_length {m : MV} (h : m.l.length ≤ 55) : (metaL m).length = 240 := by
  unfold metaL
  rw [List.length_append, List.length_replicate, frontL_length]
  omega
theorem fit_mem {l : List Int} (h : fitB l = true) {x : Int} (hx : x ∈ l) : rightB x 4 = true := List.all_eq_true.1 h x hx
theorem right4 {x : Int} (h : rightB x 4 = true) : 0 ≤ x ∧ x < 4294967296 := by
  unfold rightB at h
  simp at h
  exact h
theorem cutL_length (data : List Int) (a s : Int) : ∀ k, (cutL data a s k).length = k
  | 0 => rfl
  | k + 1 => by
    show (cutL data a s k ++ _).length = _
    rw [List.length_append, cutL_length data a s k]
    rfl

/-- A number is got where it lies. -/
theorem getR_mid (pre suf : List Int) {x : Int} {k : Nat} (hk : rightB x (k : Int) = true) (hx : -9223372036854775808 ≤ x ∧ x ≤ 9223372036854775807) : (getR (pre ++ putB x k ++ suf) (pre.length : Int) (k : Int)).1 = x := by
  have hs : sizeB (k : Int) = true := by
    by_cases hs : sizeB (k : Int) = true
    · exact hs
    · rw [rightB_none (by simpa using hs)] at hk; cases hk
  have h0 := get_put (l := pre) hk hx.1 hx.2
  unfold getR at h0 ⊢
  rw [if_pos ⟨hs, by omega⟩] at h0 ⊢
  unfold putR at h0
  rw [if_pos hk, Int.toNat_natCast] at h0
  have hl : (pre ++ putB x k ++ suf).length = pre.length + k + suf.length := by simp [putB_length, Nat.add_assoc]
  have hl0 : (pre ++ putB x k).length = pre.length + k := by simp [putB_length]
  rw [if_neg (by rw [hl0]; omega)] at h0
  rw [if_neg (by rw [hl]; omega)]
  simp only [Int.toNat_natCast] at h0 ⊢
  have e : ((pre ++ putB x k ++ suf).drop pre.length).take k = ((pre ++ putB x k).drop pre.length).take k := by
    rw [List.append_assoc, List.drop_left, List.drop_left, List.take_left' (putB_length x k), List.take_of_length_le (by rw [putB_length]; omega)]
  rw [e]
  exact congrArg Prod.fst h0
theorem at_mid (data pre suf : List Int) {x a s : Int} {k : Nat} (hd : data = pre ++ putB x k ++ suf) (ha : a = (pre.length : Int)) (hs : s = (k : Int)) (hk : rightB x (k : Int) = true) (hx : -9223372036854775808 ≤ x ∧ x ≤ 9223372036854775807) : at_ data a s = x := by
  subst hd; subst ha; subst hs
  exact getR_mid pre suf hk hx
theorem right1 {x : Int} (h : 0 ≤ x ∧ x < 256) : rightB x 1 = true := by
  unfold rightB
  simp [h]

/-- What is read from a page that was put. -/
theorem cut_meta (pre suf : List Int) : ∀ (l : List Int), fitB l = true → ∀ k, k ≤ l.length → cutL (pre ++ numsL 4 l ++ suf) (pre.length : Int) 4 k = l.take k := by
  intro l hf k
  induction k with
  | zero => intro _; simp [cutL]
  | succ k ih =>
    intro hk
    show cutL _ _ _ k ++ [_] = _
    rw [ih (by omega), List.take_succ_eq_append_getElem (show k < l.length by omega)]
    congr 2
    have hx := right4 (fit_mem hf (List.getElem_mem (show k < l.length by omega)))
    have hr := fit_mem hf (List.getElem_mem (show k < l.length by omega))
    refine at_mid _ (pre ++ numsL 4 (l.take k)) (numsL 4 (l.drop (k + 1)) ++ suf) (k := 4) ?_ ?_ rfl hr ⟨by omega, by omega⟩
    · have e : l = l.take k ++ l[k] :: l.drop (k + 1) := by rw [← List.drop_eq_getElem_cons]; exact (List.take_append_drop k l).symm
      have e2 : numsL 4 l = numsL 4 (l.take k) ++ (putB l[k] 4 ++ numsL 4 (l.drop (k + 1))) := by
        conv => lhs; rw [e]
        rw [numsL_append]; rfl
      rw [e2]
      simp [List.append_assoc]
    · rw [List.length_append, numsL_length, List.length_take, Nat.min_eq_left (by omega)]
      omega
theorem read_meta {m : MV} (h : mayB m = true) : countM (metaL m) = m.l.length ∧ readM (metaL m) m.l.length = m := by
  obtain ⟨⟨h1, h2⟩, ⟨h3, h4⟩, h5, h6⟩ := may_few h
  have hf := right4 (fit_mem h5 (x := m.f) (by simp))
  have hn := right4 (fit_mem h5 (x := m.n) (by simp))
  have hc := right4 (fit_mem h5 (x := m.c) (by simp))
  have rf := fit_mem h5 (x := m.f) (by simp)
  have rn := fit_mem h5 (x := m.n) (by simp)
  have rc := fit_mem h5 (x := m.c) (by simp)
  have e1 : ∀ x : Int, 0 ≤ x ∧ x < 256 → putB x 1 = [x] := fun x hx => by
    show putB (x / 256) 0 ++ [x % 256] = [x]
    show [] ++ [x % 256] = [x]
    rw [List.nil_append, Int.emod_eq_of_lt hx.1 hx.2]
  have hbig : metaL m = headL ++ putB m.d 1 ++ (putB (m.l.length : Int) 1 ++ (putB m.f 4 ++ (putB m.n 4 ++ (putB m.c 4 ++ (numsL 4 m.l ++ List.replicate (240 - (frontL m).length) 0))))) := by
    unfold metaL frontL
    simp [numsL, List.append_assoc]
  have l1 : ∀ x : Int, (putB x 1).length = 1 := fun x => putB_length x 1
  have l4 : ∀ x : Int, (putB x 4).length = 4 := fun x => putB_length x 4
  refine ⟨?_, ?_⟩
  · unfold countM
    rw [hbig, e1 m.d (by omega), e1 _ (show 0 ≤ ((m.l.length : Nat) : Int) ∧ ((m.l.length : Nat) : Int) < 256 by omega)]
    show (((m.l.length : Nat) : Int)).toNat = _
    omega
  · unfold readM
    have c0 : at_ (metaL m) 4 1 = m.d := at_mid _ headL _ (k := 1) hbig rfl rfl (right1 (by omega)) (by omega)
    have c1 : at_ (metaL m) 6 4 = m.f := at_mid _ (headL ++ putB m.d 1 ++ putB (m.l.length : Int) 1) (putB m.n 4 ++ (putB m.c 4 ++ (numsL 4 m.l ++ List.replicate (240 - (frontL m).length) 0))) (k := 4) (by rw [hbig]; simp [List.append_assoc]) (by simp [l1, headL]) rfl rf (by omega)
    have c2 : at_ (metaL m) 10 4 = m.n := at_mid _ (headL ++ putB m.d 1 ++ putB (m.l.length : Int) 1 ++ putB m.f 4) (putB m.c 4 ++ (numsL 4 m.l ++ List.replicate (240 - (frontL m).length) 0)) (k := 4) (by rw [hbig]; simp [List.append_assoc]) (by simp [l1, l4, headL]) rfl rn (by omega)
    have c3 : at_ (metaL m) 14 4 = m.c := at_mid _ (headL ++ putB m.d 1 ++ putB (m.l.length : Int) 1 ++ putB m.f 4 ++ putB m.n 4) (numsL 4 m.l ++ List.replicate (240 - (frontL m).length) 0) (k := 4) (by rw [hbig]; simp [List.append_assoc]) (by simp [l1, l4, headL]) rfl rc (by omega)
    have c4 : cutL (metaL m) 18 4 m.l.length = m.l := by
      have := cut_meta (headL ++ putB m.d 1 ++ putB (m.l.length : Int) 1 ++ putB m.f 4 ++ putB m.n 4 ++ putB m.c 4) (List.replicate (240 - (frontL m).length) 0) m.l h6 m.l.length (Nat.le_refl _)
      rw [List.take_of_length_le (Nat.le_refl _)] at this
      have e : (headL ++ putB m.d 1 ++ putB (m.l.length : Int) 1 ++ putB m.f 4 ++ putB m.n 4 ++ putB m.c 4).length = 18 := by simp [l1, l4, headL]
      rw [e] at this
      have e2 : headL ++ putB m.d 1 ++ putB (m.l.length : Int) 1 ++ putB m.f 4 ++ putB m.n 4 ++ putB m.c 4 ++ numsL 4 m.l ++ List.replicate (240 - (frontL m).length) 0 = metaL m := by rw [hbig]; simp [List.append_assoc]
      rw [e2] at this
      exact this
    rw [c0, c1, c2, c3, c4]
theorem isMeta_put {m : MV} (h : mayB m = true) : isMeta (metaL m) ∧ parseM (metaL m) = (m, 0) := by
  obtain ⟨e1, e2⟩ := read_meta h
  have hm : isMeta (metaL m) := ⟨metaL_length (by have := (may_few h).2.1.2; omega), by rw [e1, e2]; exact h, by rw [e1, e2]⟩
  refine ⟨hm, ?_⟩
  unfold parseM
  rw [if_pos hm, e1, e2]
/-- A page tells how many its directory has. -/
theorem meta_count {m : MV} (h : m.l.length ≤ 55) (h2 : mayB m = true) : (metaL m)[5]? = some (m.l.length : Int) := by
  obtain ⟨⟨h1, h2⟩, ⟨h3, h4⟩, _⟩ := may_few h2
  have e1 : ∀ x : Int, 0 ≤ x ∧ x < 256 → putB x 1 = [x] := fun x hx => by
    show putB (x / 256) 0 ++ [x % 256] = [x]
    show [] ++ [x % 256] = [x]
    rw [List.nil_append, Int.emod_eq_of_lt hx.1 hx.2]
  have hbig : metaL m = headL ++ putB m.d 1 ++ (putB (m.l.length : Int) 1 ++ (numsL 4 [m.f, m.n, m.c] ++ (numsL 4 m.l ++ List.replicate (240 - (frontL m).length) 0))) := by
    unfold metaL frontL
    simp [numsL, List.append_assoc]
  rw [hbig, e1 m.d (by omega), e1 _ (show 0 ≤ ((m.l.length : Nat) : Int) ∧ ((m.l.length : Nat) : Int) < 256 by omega)]
  rfl
/-- The plain Parse looks at twenty of the directory at most: that makes no difference. -/
theorem parse_twenty {data : List Int} (hl : data.length = 240) (hb : AllBytes data) :
    (mayB (readM data (min (countM data) 20)) = true ∧ metaL (readM data (min (countM data) 20)) = data) ↔ isMeta data := by
  have hlen : ∀ k, (readM data k).l.length = k := fun k => cutL_length _ _ _ k
  constructor
  · rintro ⟨h1, h2⟩
    have hc := meta_count (m := readM data (min (countM data) 20)) (by rw [hlen]; omega) h1
    rw [h2, hlen] at hc
    have : countM data = min (countM data) 20 := by
      conv => lhs; unfold countM
      rw [hc, Option.getD_some, Int.toNat_natCast]
    rw [← this] at h1 h2
    exact ⟨hl, h1, h2⟩
  · rintro ⟨_, h1, h2⟩
    have := (may_few h1).2.1.2
    rw [hlen] at this
    rw [Nat.min_eq_left this]
    exact ⟨h1, h2⟩

end Go.Proofs.YtfbljmkjiaklfaaGreatDoor

/-
  Contracts of the small functions of meta and of its plain twin: fit, in, mayBe, lay. Conditions: lengths are ints; what is laid lies within the page, and is right.
-/
namespace Go.Proofs.YtfbljmkjiaklfaaGreatDoor
open Go.RowKit
set_option maxRecDepth 100000
set_option linter.unusedVariables false

theorem fitB_take {l : List Int} {k : Nat} (h : fitB (l.take k) = true) (hk : k < l.length) (hr : rightB (l[k]?.getD 0) 4 = true) : fitB (l.take (k + 1)) = true := by
  rw [List.take_succ_eq_append_getElem hk]
  rw [List.getElem?_eq_getElem hk] at hr
  unfold fitB at h ⊢
  rw [List.all_append, h]
  simpa using hr
theorem fitB_not {l : List Int} {k : Nat} (hk : k < l.length) (hr : rightB (l[k]?.getD 0) 4 = false) : fitB l = false := by
  rw [List.getElem?_eq_getElem hk] at hr
  cases h : fitB l
  · rfl
  · have := fit_mem h (List.getElem_mem hk)
    have hr' : rightB l[k] 4 = false := hr
    rw [this] at hr'
    cases hr'

set_option maxHeartbeats 400000 in
theorem fit_any {w : World} {B n : Nat} {A : Option Addr} {l : List Int} (c : Nat) (hr : RI w B A n l) (hm : n ≤ maxLen) :
    Calls Tryz.prog 198 #[.slice A n c] w fun e w' => e = .returned (.bool (fitB l)) ∧ w = w' := by
  unfold maxLen at hm
  have hlen := hr.len
  go_enter Tryz.func198, Tryz.ntmps198
  go_wp2_with fail
  go_loop [7] (fun i => ∃ k : Nat, k ≤ n ∧ i = .int .i64 k ∧ Hid (fitB (l.take k) = true)) (fun i => n - (intOf i).toNat)
  case atStart => exact ⟨0, Nat.zero_le _, rfl, Lib.hid rfl⟩
  case round =>
    obtain ⟨k, hk, rfl, hbef⟩ := hrel
    by_cases hlt : k < n
    · obtain ⟨b, off, rfl, hb, hcell⟩ := hr.2.2 (by omega)
      have hck := hcell k hlt
      have hlt' : (k : Int) < (n : Int) := by omega
      cases hv : rightB (l[k]?.getD 0) 4
      · have HV := Lib.hid hv
        have HF := Lib.hid (fitB_not (by omega) hv)
        clear hv hcell
        generalize l[k]?.getD 0 = u at hck HV
        go_wp2_with (go_at_call 180; refine (Right_no _ _ _ HV.out).mono ?_; rintro e w' ⟨rfl, rfl⟩)
        go_ret
        rw [HF.out]
        exact ⟨rfl, rfl⟩
      · have HV := Lib.hid hv
        have HF := Lib.hid (fitB_take hbef.out (by omega) hv)
        clear hv hcell
        generalize l[k]?.getD 0 = u at hck HV
        go_wp2_with (go_at_call 180; refine (Right_yes _ _ _ HV.out).mono ?_; rintro e w' ⟨rfl, rfl⟩)
        go_round
        case rel => exact ⟨k + 1, by omega, by go_num, HF⟩
        case measure => simp [intOf]; omega
    · obtain rfl : k = n := by omega
      have HF := Lib.hid (show fitB l = true by
        have := hbef.out
        rwa [List.take_of_length_le (by omega)] at this)
      go_wp2
      go_ret
      rw [HF.out]
      exact ⟨rfl, rfl⟩

set_option maxHeartbeats 400000 in
theorem refIn_any (n : Int) (w : World) : Calls Tryz.prog 193 #[.int .i64 n] w fun e w' => e = .returned (.bool (rightB n 4)) ∧ w = w' := by
  have hq : rightB n 4 = (decide (0 ≤ n) && decide (n < 4294967296)) := by
    unfold rightB
    by_cases a : 0 ≤ n <;> by_cases b : n < 4294967296 <;> simp [a, b]
  rw [hq]
  clear hq
  generalize h1 : decide (0 ≤ n) = b1
  generalize h2 : decide (n < 4294967296) = b2
  cases b1
  · go_enter Tryz.func193, Tryz.ntmps193
    go_wp2
    go_ret
    exact ⟨rfl, rfl⟩
  cases b2
  · go_enter Tryz.func193, Tryz.ntmps193
    go_wp2
    go_ret
    exact ⟨rfl, rfl⟩
  · go_enter Tryz.func193, Tryz.ntmps193
    go_wp2
    go_ret
    exact ⟨rfl, rfl⟩

theorem RI.lit (w : World) (e : TypeId) (l : List Int) (cs : Array Value) (hcs : cs = (l.map (Value.int .i64)).toArray) (h : ∀ x ∈ l, -9223372036854775808 ≤ x ∧ x ≤ 9223372036854775807) : RI (w.alloc (.cells cs e)) (w.heap.size + 1) (some ⟨w.heap.size, 0, none⟩) l.length l := by
  subst hcs
  refine ⟨rfl, h, fun hn => ⟨w.heap.size, 0, rfl, Nat.lt_succ_self _, fun j hj => ?_⟩⟩
  rw [Nat.zero_add, cell_of_row _ w.heap.size j _ e (0, 0) (heap_alloc_new w _)]
  simp [List.getElem?_eq_getElem hj]

/-- Put of one number alone. -/
theorem PutNil_any (x : Int) (k : Nat) (w : World) (hs : rightB x (k : Int) = true) (hk8 : k ≤ 8) (hx : -9223372036854775808 ≤ x ∧ x ≤ 9223372036854775807) :
    Calls Tryz.prog 173 #[.slice none 0 0, .int .i64 x, .int .i64 (k : Int)] w fun e w' => ∃ g, e = .returned (.slice (some ⟨g, 0, none⟩) k k) ∧ w.heap.size ≤ g ∧ w'.heap[g]? = some (.cells ((putB x k).map (Value.int .u8)).toArray 5 (0, 0)) ∧ Below w.heap.size w w' := by
  refine (Put_any none 0 0 0 [] x (k : Int) w RB.nil_ (Nat.zero_le _) (Nat.le_refl _) (by decide) hx.1 hx.2).mono ?_
  rintro e w' ⟨v, rfl, ⟨g, rfl, hg, hh⟩, hb⟩
  have e1 : putR [] x (k : Int) = putB x k := by
    unfold putR
    rw [if_pos hs, Int.toNat_natCast, List.nil_append]
  rw [e1] at hh
  exact ⟨g, by rw [e1, putB_length], hg, hh, hb⟩

/-- The page with some bytes over it. -/
theorem splice_more {L d e : List Int} {a : Nat} (h : a + d.length + e.length ≤ L.length) : splice (splice L a d) (a + d.length) e = splice L a (d ++ e) := by
  have hP : (L.take a ++ d).length = a + d.length := by simp; omega
  have e0 : splice L a d = (L.take a ++ d) ++ L.drop (a + d.length) := by unfold splice; simp [List.append_assoc]
  have h1 : ((L.take a ++ d) ++ L.drop (a + d.length)).take (a + d.length) = L.take a ++ d := List.take_left' hP
  have h2 : ((L.take a ++ d) ++ L.drop (a + d.length)).drop (a + d.length + e.length) = L.drop (a + (d ++ e).length) := by
    rw [← List.drop_drop, List.drop_left' hP, List.drop_drop, List.length_append, Nat.add_assoc]
  rw [e0]
  unfold splice
  rw [h1, h2]
  simp [List.append_assoc]

end Go.Proofs.YtfbljmkjiaklfaaGreatDoor

/-
  Contracts of meta's mayBe and lay. Conditions: lengths are ints; what is laid lies within the page, and is right.
-/
namespace Go.Proofs.YtfbljmkjiaklfaaGreatDoor
open Go.RowKit
set_option maxRecDepth 100000
set_option linter.unusedVariables false

theorem row_src {w : World} {g : Nat} {l : List Int} (h : w.heap[g]? = some (.cells (l.map (Value.int .u8)).toArray 5 (0, 0))) : ∀ j v, (l.map (Value.int .u8))[j]? = some v → w.cell? ((⟨g, 0, none⟩ : Addr).add j) = some v := by
  intro j v hv
  rw [add_none, Nat.zero_add, cell_of_row w g j _ _ (0, 0) h, List.getElem?_toArray]
  exact hv
set_option maxHeartbeats 1600000 in
theorem mayBe_any {w : World} {A : Option Addr} {k cap : Nat} (d f n c : Int) {l : List Int} (hr : RI w w.heap.size A k l) (hm : k ≤ maxLen) (hb : (-9223372036854775808 ≤ f ∧ f ≤ 9223372036854775807) ∧ (-9223372036854775808 ≤ n ∧ n ≤ 9223372036854775807) ∧ (-9223372036854775808 ≤ c ∧ c ≤ 9223372036854775807)) :
    Calls Tryz.prog 164 #[.agg #[.int .i64 d, .int .i64 f, .int .i64 n, .int .i64 c, .slice A k cap]] w fun e w' => e = .returned (.bool (mayB ⟨d, f, n, c, l⟩)) ∧ Below w.heap.size w w' := by
  have hlen := hr.len
  have hbox : Below w.heap.size w (w.alloc (.cells #[.int .i64 d, .int .i64 f, .int .i64 n, .int .i64 c, .slice A k cap] 41)) := (Below.refl _ _).alloc (Nat.le_refl _) _
  have hmay : mayB ⟨d, f, n, c, l⟩ = (decide (0 ≤ d) && decide (d ≤ 10) && decide (1 ≤ (k : Int)) && decide ((k : Int) ≤ 20) && fitB [f, n, c] && fitB l) := by
    unfold mayB
    show (decide (0 ≤ d) && decide (d ≤ 10) && decide (1 ≤ l.length) && decide (l.length ≤ 20) && fitB [f, n, c] && fitB l) = _
    rw [hlen]
    congr 4
    · have : (1 ≤ k) = (1 ≤ (k : Int)) := propext (by omega)
      simp [this]
    · have : (k ≤ 20) = ((k : Int) ≤ 20) := propext (by omega)
      simp [this]
  rw [hmay]
  have hbox2 := hbox.alloc hbox.size (.cells #[.int .i64 f, .int .i64 n, .int .i64 c] 3)
  have hlit : RI ((w.alloc (.cells #[.int .i64 d, .int .i64 f, .int .i64 n, .int .i64 c, .slice A k cap] 41)).alloc (.cells #[.int .i64 f, .int .i64 n, .int .i64 c] 3)) (w.heap.size + 2) (some ⟨w.heap.size + 1, 0, none⟩) 3 [f, n, c] := by
    have := RI.lit (w.alloc (.cells #[.int .i64 d, .int .i64 f, .int .i64 n, .int .i64 c, .slice A k cap] 41)) 3 [f, n, c] #[.int .i64 f, .int .i64 n, .int .i64 c] rfl (fun x hx => by
      simp at hx
      rcases hx with rfl | rfl | rfl
      · exact hb.1
      · exact hb.2.1
      · exact hb.2.2)
    simpa using this
  have HF3 := Lib.hid (fit_any 3 hlit (by decide))
  have HFD := Lib.hid (fit_any cap (hr.below hbox2) hm)
  have HB1 := Lib.hid hbox
  have HB2 := Lib.hid hbox2
  clear hmay hlit hbox hbox2 hr hlen hb
  generalize g1 : decide (0 ≤ d) = b1
  generalize g2 : decide (d ≤ 10) = b2
  generalize g3 : decide (1 ≤ (k : Int)) = b3
  generalize g4 : decide ((k : Int) ≤ 20) = b4
  generalize hx5 : fitB [f, n, c] = b5 at HF3
  generalize hx6 : fitB l = b6 at HFD
  clear hx5 hx6
  cases b1
  · have hF := Lib.hid HB1.out
    clear HB1 HB2 HF3 HFD
    go_enter Tryz.func164, Tryz.ntmps164
    go_wp2
    go_ret
    exact ⟨rfl, hF.out⟩
  cases b2
  · have hF := Lib.hid HB1.out
    clear HB1 HB2 HF3 HFD
    go_enter Tryz.func164, Tryz.ntmps164
    go_wp2
    go_ret
    exact ⟨rfl, hF.out⟩
  cases b3
  · have hF := Lib.hid HB1.out
    clear HB1 HB2 HF3 HFD
    go_enter Tryz.func164, Tryz.ntmps164
    go_wp2
    go_ret
    exact ⟨rfl, hF.out⟩
  cases b4
  · have hF := Lib.hid HB1.out
    clear HB1 HB2 HF3 HFD
    go_enter Tryz.func164, Tryz.ntmps164
    go_wp2
    go_ret
    exact ⟨rfl, hF.out⟩
  cases b5
  · go_enter Tryz.func164, Tryz.ntmps164
    go_wp2_with fail
    refine HF3.out.mono ?_
    rintro e w' ⟨rfl, rfl⟩
    go_wp2
    go_ret
    exact ⟨rfl, HB2.out⟩
  cases b6
  · go_enter Tryz.func164, Tryz.ntmps164
    go_wp2_with fail
    refine HF3.out.mono ?_
    rintro e w' ⟨rfl, rfl⟩
    go_wp2_with fail
    refine HFD.out.mono ?_
    rintro e w' ⟨rfl, rfl⟩
    go_wp2
    go_ret
    exact ⟨rfl, HB2.out⟩
  · go_enter Tryz.func164, Tryz.ntmps164
    go_wp2_with fail
    refine HF3.out.mono ?_
    rintro e w' ⟨rfl, rfl⟩
    go_wp2_with fail
    refine HFD.out.mono ?_
    rintro e w' ⟨rfl, rfl⟩
    go_wp2
    go_ret
    exact ⟨rfl, HB2.out⟩


set_option maxHeartbeats 3200000 in
theorem lay_any {w : World} {g a s n cap B : Nat} {A : Option Addr} {L l : List Int} (hp : w.heap[g]? = some (.cells (L.map (Value.int .u8)).toArray 5 (0, 0))) (hL : L.length = 240) (hr : RI w B A n l) (hB : B ≤ w.heap.size) (hA : 0 < n → ∀ x, A = some x → x.block ≠ g) (hs : s = 1 ∨ s = 4) (ha : a + s * n < 240) (hfit : ∀ x ∈ l, rightB x (s : Int) = true) :
    Calls Tryz.prog 165 #[.slice (some ⟨g, 0, none⟩) 240 240, .int .i64 (a : Int), .int .i64 (s : Int), .slice A n cap] w fun e w' => e = .returned (.int .i64 ((a + s * n : Nat) : Int)) ∧ w'.heap[g]? = some (.cells ((splice L a (numsL s l)).map (Value.int .u8)).toArray 5 (0, 0)) ∧ Touch (fun j => j = g) w w' := by
  have hlen := hr.len
  have hgl : g < w.heap.size := (Array.getElem?_eq_some_iff.1 hp).1
  have hs8 : 1 ≤ s ∧ s ≤ 8 := by omega
  have HFIT := Lib.hid hfit
  have HLL := Lib.hid hL
  have HBY := Lib.hid hr.2.1
  have HR := Lib.hid hr
  have HBG := Lib.hid hB
  have HA := Lib.hid hA
  have HN := Lib.hid hlen
  have HP := Lib.hid hp
  have hn240 : n ≤ 240 := by
    rcases hs with rfl | rfl <;> omega
  have HSS := Lib.hid hs
  clear hfit hL hlen hr hB hp hs hA
  go_enter Tryz.func165, Tryz.ntmps165
  go_wp2_with fail
  go_loopw [1, 13] (fun av i wr => ∃ k : Nat, k ≤ n ∧ i = .int .i64 k ∧ av = .int .i64 ((a + s * k : Nat) : Int) ∧ Hid (wr.heap[g]? = some (.cells ((splice L a (numsL s (l.take k))).map (Value.int .u8)).toArray 5 (0, 0))) ∧ Hid (Touch (fun j => j = g) w wr)) (fun _ i _ => n - (intOf i).toNat)
  case atStart =>
    refine ⟨0, Nat.zero_le _, rfl, by rw [Nat.mul_zero, Nat.add_zero], Lib.hid ?_, Lib.hid (Touch.refl _ _)⟩
    rw [List.take_zero, show splice L a (numsL s []) = L from by unfold splice; simp [numsL]]
    exact HP.out
  case round =>
    obtain ⟨k, hk, rfl, rfl, hblk, htc⟩ := hrel
    by_cases hlt : k < n
    · have hlt' : (k : Int) < (n : Int) := by omega
      obtain ⟨b, off, rfl, hb, hcell⟩ := HR.out.2.2 (by omega)
      have hck := (World.cell?_of_block (a := ⟨b, off + k, none⟩) (htc.out.block b (by have := HBG.out; omega) (HA.out (by omega) _ rfl))).trans (hcell k hlt)
      have hmem : (l[k]?.getD 0) ∈ l := by
        rw [List.getElem?_eq_getElem (show k < l.length by have := HN.out; omega)]
        exact List.getElem_mem _
      have HPUT := Lib.hid (fun w1 => PutNil_any (l[k]?.getD 0) s w1 (HFIT.out _ hmem) hs8.2 (HBY.out _ hmem))
      have hat : a + s * k + s ≤ a + s * n := by
        have : s * (k + 1) ≤ s * n := Nat.mul_le_mul_left s hlt
        rw [Nat.mul_succ] at this
        omega
      have HNX := Lib.hid (show splice (splice L a (numsL s (l.take k))) (a + s * k) (putB (l[k]?.getD 0) s) = splice L a (numsL s (l.take (k + 1))) from by
        have hkl : k < l.length := by have := HN.out; omega
        have e1 : (numsL s (l.take k)).length = s * k := by rw [numsL_length, List.length_take, Nat.min_eq_left (by omega)]
        have := splice_more (L := L) (d := numsL s (l.take k)) (e := putB (l[k]?.getD 0) s) (a := a) (by rw [e1, putB_length, HLL.out]; omega)
        rw [e1] at this
        rw [this, List.take_succ_eq_append_getElem hkl, numsL_append, List.getElem?_eq_getElem hkl]
        congr 2
        show putB l[k] s = putB l[k] s ++ []
        rw [List.append_nil])
      have HLS := Lib.hid (show (splice L a (numsL s (l.take k))).length = 240 from by
        rw [length_splice _ _ _ (by rw [numsL_length, List.length_take, HLL.out, Nat.min_eq_left (by have := HN.out; omega)]; omega)]
        exact HLL.out)
      have hat2 : a + s * k < 240 := by omega
      have hne : ¬ (a + s * k = 240) := by omega
      have hI1 : (0 : Int) ≤ ((a + s * k : Nat) : Int) := by omega
      have hI2 : ((a + s * k : Nat) : Int) ≤ 240 := by omega
      have hI3 : IntKind.i64.wrap (((a + s * k : Nat) : Int) + (s : Int)) = ((a + s * k + s : Nat) : Int) := by unfold IntKind.wrap; simp [IntKind.bits, IntKind.signed]; omega
      have hgwr : g < wr.heap.size := Nat.lt_of_lt_of_le hgl htc.out.size
      clear hcell hmem
      generalize hLk : splice L a (numsL s (l.take k)) = Lk at *
      generalize l[k]?.getD 0 = u at *
      generalize hak : a + s * k = ak at *
      go_wp2_with fail
      go_region_held3 (fun w' => True) (exact trivial)
        (first
          | (go_at_call 173; refine (HPUT.out _).mono ?_; rintro e w2 ⟨g2, rfl, hg2, hh2, hb2⟩)
          | (refine step_copy_at (by rfl) _ _ 46 46 (by rfl) 5 Tryz.underlying46 size_u8' (some ⟨g, ak, none⟩) ⟨g2, 0, none⟩ (240 - ak) (240 - ak) s s (by rfl) (by rfl) g ak rfl (Lk.map (Value.int .u8)) 5 ((hb2.block g hgwr).trans hblk.out) ((putB u s).map (Value.int .u8)) (by rw [List.length_map, putB_length]; exact (Nat.min_eq_left (by omega)).symm) (fun j v hj => row_src hh2 j v hj) (by rw [List.length_map, List.length_map, putB_length, HLS.out]; omega) (oneCell_bytes _) ?_; intro w3 hblk3 htc3))
      have HE := Lib.hid (show w3.heap[g]? = some (.cells ((splice L a (numsL s (l.take (k + 1)))).map (Value.int .u8)).toArray 5 (0, 0)) from by
        have := hblk3.out
        have hsm := splice_map (L := Lk) (d := putB u s) (tl := []) (o := ak) (by rw [putB_length, HLS.out]; omega)
        rw [List.append_nil, List.append_nil] at hsm
        rw [hsm, HNX.out] at this
        exact this)
      have HT := Lib.hid (show Touch (fun j => j = g) w w3 from by
        have t1 := htc.out
        have t3 := htc3.out
        have h2s : wr.heap.size ≤ w2.heap.size := hb2.size
        exact ⟨t3.os.trans (hb2.os.trans t1.os), t3.tape.trans (hb2.tape.trans t1.tape), t3.output.trans (hb2.output.trans t1.output), Nat.le_trans t1.size (Nat.le_trans h2s t3.size), fun j hj hn => (t3.block j (Nat.lt_of_lt_of_le hj (Nat.le_trans t1.size h2s)) hn).trans ((hb2.block j (Nat.lt_of_lt_of_le hj t1.size)).trans (t1.block j hj hn))⟩)
      have HAK := Lib.hid (show ak + s = a + s * (k + 1) by rw [← hak, Nat.mul_succ, Nat.add_assoc])
      clear hblk htc hblk3 htc3 hb2 hh2 hg2 HPUT HNX hak
      rw [putB_length, hI3]
      go_wp2
      go_roundw
      case rel => exact ⟨k + 1, by omega, by go_num, by rw [HAK.out], HE, HT⟩
      case measure => simp [intOf]; omega
    · obtain rfl : k = n := by omega
      have HE := Lib.hid (show wr.heap[g]? = some (.cells ((splice L a (numsL s l)).map (Value.int .u8)).toArray 5 (0, 0)) from by
        have := hblk.out
        rwa [List.take_of_length_le (by have := HN.out; omega)] at this)
      go_wp2
      go_ret
      exact ⟨rfl, HE.out, htc.out⟩

end Go.Proofs.YtfbljmkjiaklfaaGreatDoor

/-
  Contract of meta.Put. Condition: lengths and numbers are ints.
-/
namespace Go.Proofs.YtfbljmkjiaklfaaGreatDoor
open Go.RowKit
set_option maxRecDepth 100000
set_option linter.unusedVariables false

/-- A Meta in a variable's block. -/
def MBox (w : World) (b : Nat) (d f n c : Int) (v : Value) : Prop := w.heap[b]? = some (.cells #[.int .i64 d, .int .i64 f, .int .i64 n, .int .i64 c, v] 41 (0, 0))
section
variable {w w' : World} {b : Nat} {d f n c : Int} {v : Value}
theorem MBox.new (w : World) (d f n c : Int) (v : Value) : MBox (w.alloc (.cells #[.int .i64 d, .int .i64 f, .int .i64 n, .int .i64 c, v] 41)) w.heap.size d f n c v := heap_alloc_new _ _
theorem MBox.cells (h : MBox w b d f n c v) : w.cell? ⟨b, 0, none⟩ = some (.int .i64 d) ∧ w.cell? ⟨b, 1, none⟩ = some (.int .i64 f) ∧ w.cell? ⟨b, 2, none⟩ = some (.int .i64 n) ∧ w.cell? ⟨b, 3, none⟩ = some (.int .i64 c) ∧ w.cell? ⟨b, 4, none⟩ = some v ∧ b < w.heap.size := by
  refine ⟨?_, ?_, ?_, ?_, ?_, (Array.getElem?_eq_some_iff.1 h).1⟩
  · rw [cell_of_row w b 0 _ _ (0, 0) h]; rfl
  · rw [cell_of_row w b 1 _ _ (0, 0) h]; rfl
  · rw [cell_of_row w b 2 _ _ (0, 0) h]; rfl
  · rw [cell_of_row w b 3 _ _ (0, 0) h]; rfl
  · rw [cell_of_row w b 4 _ _ (0, 0) h]; rfl
theorem MBox.keep (h : MBox w b d f n c v) (e : w'.heap[b]? = w.heap[b]?) : MBox w' b d f n c v := e.trans h
theorem MBox.below (h : MBox w b d f n c v) (hb : Below w.heap.size w w') : MBox w' b d f n c v := h.keep (hb.block b h.cells.2.2.2.2.2)
end

theorem splice_next {L d e : List Int} {k : Nat} (hk : k = d.length) (h : d.length + e.length ≤ L.length) : splice (splice L 0 d) k e = splice L 0 (d ++ e) := by
  subst hk
  have := splice_more (L := L) (d := d) (e := e) (a := 0) (by omega)
  rw [Nat.zero_add] at this
  exact this
theorem page_end {m : MV} : splice (reps 240 0) 0 (frontL m) = metaL m := by
  unfold splice metaL reps
  rw [List.take_zero, List.nil_append, Nat.zero_add, List.drop_replicate]
theorem zeros_cells : ((reps 240 0).map (Value.int .u8)) = List.replicate 240 (Value.int .u8 0) := by unfold reps; rw [List.map_replicate]

/-- The letters over a page of noughts. -/
theorem letters_run {w : World} {g : Nat} (h : w.heap[g]? = some (.cells ((reps 240 0).map (Value.int .u8)).toArray 5 (0, 0))) (ty : TypeId) : ∃ w', (Builtin.copy_ #[46, 9] ty #[.slice (some ⟨g, 0, none⟩) 240 240, .string { data := #[69, 88, 67, 72] }]).run Tryz.prog w = .ok (.int .i64 4) w' ∧ w'.heap[g]? = some (.cells ((splice (reps 240 0) 0 headL).map (Value.int .u8)).toArray 5 (0, 0)) ∧ Touch (fun j => j = g) w w' := by
  have hrun := Lib.run_copy_row_string (P := Tryz.prog) w 46 9 ty 5 g 0 240 240 { data := #[69, 88, 67, 72] } _ 5 Tryz.underlying46 size_u8' h (by decide) (by rw [List.size_toArray, List.length_map, reps_length]; decide)
  refine ⟨_, hrun, ?_, ⟨rfl, rfl, rfl, by simp [World.setRow], fun k hk hne => setRow_other w g k _ (fun e => hne e)⟩⟩
  rw [setRow_heap w g _ _ _ _ h]
  rfl

theorem letters_made {w1 w2 : World} {b : Nat} {d f n c : Int} {v : Value} (hown2 : w2.ownsRow w1.heap.size 5 1 (.slice (some ⟨w1.heap.size, 0, none⟩) 240 240) 240 (madeCells (Value.int .u8 0).cells (240 * 1)).toList) (hb2 : Below w1.heap.size w1 w2) (hmb : MBox w1 b d f n c v) :
    ∃ w3, (Builtin.copy_ #[46, 9] 3 #[.slice (some ⟨w1.heap.size, 0, none⟩) 240 240, .string { data := #[69, 88, 67, 72] }]).run Tryz.prog w2 = .ok (.int .i64 4) w3 ∧ Hid (w3.heap[w1.heap.size]? = some (.cells ((splice (reps 240 0) 0 headL).map (Value.int .u8)).toArray 5 (0, 0)) ∧ Touch (fun j => j = w1.heap.size) w1 w3) ∧ MBox w3 b d f n c v := by
  have hblk2 := made_u8 hown2
  rw [← zeros_cells] at hblk2
  obtain ⟨w3, hrun3, hblk3, ht3⟩ := letters_run hblk2 3
  have hs2 := hb2.size
  have hmb2 := hmb.below hb2
  have hbl := hmb.cells.2.2.2.2.2
  exact ⟨w3, hrun3, Lib.hid ⟨hblk3, ⟨ht3.os.trans hb2.os, ht3.tape.trans hb2.tape, ht3.output.trans hb2.output, Nat.le_trans hs2 ht3.size, fun j hj hn => (ht3.block j (Nat.lt_of_lt_of_le hj hs2) hn).trans (hb2.block j hj)⟩⟩, hmb2.keep (ht3.block _ hmb2.cells.2.2.2.2.2 (fun e => by omega))⟩

set_option maxHeartbeats 6400000 in
theorem metaPut_any {w : World} {A : Option Addr} {k cap : Nat} (d f n c : Int) {l : List Int} (hr : RI w w.heap.size A k l) (hm : k ≤ maxLen) (hd : -9223372036854775808 ≤ d ∧ d ≤ 9223372036854775807) (hf : -9223372036854775808 ≤ f ∧ f ≤ 9223372036854775807) (hn : -9223372036854775808 ≤ n ∧ n ≤ 9223372036854775807) (hc : -9223372036854775808 ≤ c ∧ c ≤ 9223372036854775807) :
    Calls Tryz.prog 105 #[.agg #[.int .i64 d, .int .i64 f, .int .i64 n, .int .i64 c, .slice A k cap]] w fun e w' => ∃ A' n' c', e = .returned (.tuple #[.slice A' n' c', .int .i64 (putM ⟨d, f, n, c, l⟩).2]) ∧ n' ≤ c' ∧ RB w' w'.heap.size A' n' (putM ⟨d, f, n, c, l⟩).1 ∧ Below w.heap.size w w' := by
  obtain ⟨i0, hi, hz0, hz1, hz2⟩ := info_parts info_u8
  have hbox : Below w.heap.size w (w.alloc (.cells #[.int .i64 d, .int .i64 f, .int .i64 n, .int .i64 c, .slice A k cap] 41)) := (Below.refl _ _).alloc (Nat.le_refl _) _
  have hmb := MBox.new w d f n c (.slice A k cap)
  have hsz := hbox.size
  have HM := Lib.hid (mayBe_any (w := w.alloc (.cells #[.int .i64 d, .int .i64 f, .int .i64 n, .int .i64 c, .slice A k cap] 41)) (cap := cap) d f n c ((hr.below hbox).more hsz) hm ⟨hf, hn, hc⟩)
  have HR := Lib.hid hr
  have HB := Lib.hid hbox
  have hlen := Lib.hid hr.len
  have hmay := fun h => may_few (m := ⟨d, f, n, c, l⟩) h
  obtain ⟨c0, c1, c2, c3, c4, hbl⟩ := hmb.cells
  have HMB := Lib.hid hmb
  cases hmb2 : mayB ⟨d, f, n, c, l⟩ with
  | false =>
    have hP : putM ⟨d, f, n, c, l⟩ = ([], 1) := by unfold putM; rw [if_neg (by rw [hmb2]; decide)]
    rw [hmb2] at HM
    rw [hP]
    clear hP hmay hmb2 hmb hbox hr
    go_enter Tryz.func105, Tryz.ntmps105
    go_wp2_with fail
    refine HM.out.mono ?_
    rintro e w1 ⟨rfl, hb1⟩
    have hF := Lib.hid (HB.out.trans (hb1.mono hsz))
    clear hb1
    go_wp2
    go_ret2
    exact ⟨none, 0, 0, rfl, Nat.le_refl _, RB.nil_, hF.out⟩
  | true =>
    obtain ⟨⟨m1, m2⟩, ⟨m3, m4⟩, m5, m6⟩ := hmay hmb2
    have hk20 : k ≤ 20 := by have := hlen.out; simp at m4; omega
    have hP : putM ⟨d, f, n, c, l⟩ = (metaL ⟨d, f, n, c, l⟩, 0) := by unfold putM; rw [if_pos hmb2]
    have HME := Lib.hid (page_end (m := ⟨d, f, n, c, l⟩))
    have HML := Lib.hid (metaL_length (m := ⟨d, f, n, c, l⟩) (by simp at m4 ⊢; omega))
    have HFD : Hid (∀ x ∈ l, rightB x ((4 : Nat) : Int) = true) := Lib.hid fun x hx => fit_mem m6 hx
    have HF3 : Hid (∀ x ∈ [f, n, c], rightB x ((4 : Nat) : Int) = true) := Lib.hid fun x hx => fit_mem m5 hx
    have HF1 : Hid (∀ x ∈ [d, (k : Int)], rightB x ((1 : Nat) : Int) = true) := Lib.hid fun x hx => by
      simp at hx m1 m2
      rcases hx with rfl | rfl
      · exact right1 (by omega)
      · exact right1 (by omega)
    rw [hmb2] at HM
    rw [hP]
    clear hP hmay hmb2 hmb hbox hr m1 m2 m3 m4 m5 m6
    go_enter Tryz.func105, Tryz.ntmps105
    go_wp2_with fail
    refine HM.out.mono ?_
    rintro e w1 ⟨rfl, hb1⟩
    have hmb1 := HMB.out.below hb1
    have hb01 := HB.out.trans (hb1.mono hsz)
    have hs1 := hb01.size
    obtain ⟨c0, c1, c2, c3, c4, hbl1⟩ := hmb1.cells
    go_wp2_with (first
      | (refine wpList_make_full w1 rfl _ _ 46 rfl w1.heap.size 5 i0 (.int .u8 0) 1 Tryz.underlying46 hi hz0 hz1 .i64 .i64 _ _ 240 rfl rfl (by simp) (by simp) (by rw [hz2]; decide) (by decide) (Nat.le_refl _) ?_; intro w2 hown2 hg2; have hb2 : Below w1.heap.size w1 w2 := (Below.refl _ _).grown hg2 (Nat.le_refl _) (by simp); obtain ⟨w3, hrun3, HK3, hmb3⟩ := letters_made hown2 hb2 hmb1; obtain ⟨c0, c1, c2, c3, c4, hbl3⟩ := hmb3.cells; clear hown2 hg2 hb2))
    have HG3 := Lib.hid HK3.out.1
    have HT3 := Lib.hid HK3.out.2
    have hgw : w1.heap.size < w3.heap.size := (Array.getElem?_eq_some_iff.1 HG3.out).1
    have hbW3 := Lib.hid (hb01.trans (HT3.out.below (B := w.heap.size) (fun j e => by rw [e]; exact hs1) hs1))
    have hX4 : Below w3.heap.size w3 (w3.alloc (.cells #[.int .i64 d, .int .i64 (k : Int)] 3)) := (Below.refl _ _).alloc (Nat.le_refl _) _
    have HL4 := Lib.hid (lay_any (cap := 2) (w := w3.alloc (.cells #[.int .i64 d, .int .i64 (k : Int)] 3)) (g := w1.heap.size) (a := 4) (s := 1) (n := 2) (L := splice (reps 240 0) 0 headL) (l := [d, (k : Int)]) ((hX4.block _ hgw).trans HG3.out) (by rw [length_splice _ _ _ (by rw [reps_length]; decide), reps_length]) (RI.lit w3 3 [d, (k : Int)] #[.int .i64 d, .int .i64 (k : Int)] rfl (fun x hx => by
      simp at hx
      rcases hx with rfl | rfl
      · exact hd
      · omega)) (by simp) (fun _ x hx => by cases hx; show ¬ w3.heap.size = w1.heap.size; omega) (.inl rfl) (by decide) HF1.out)
    rw [show ((4 + 1 * 2 : Nat) : Int) = 6 from rfl, show ((4 : Nat) : Int) = 4 from rfl, show ((1 : Nat) : Int) = 1 from rfl, splice_next (L := reps 240 0) (k := 4) (d := headL) rfl (by rw [numsL_length, reps_length]; show 4 + 1 * 2 ≤ 240; decide)] at HL4
    have hmb4 := Lib.hid (hmb3.below hX4)
    have hbX4 := Lib.hid (hbW3.out.trans (hX4.mono hbW3.out.size))
    clear hX4 hmb3
    go_wp2_with fail
    refine HL4.out.mono ?_
    rintro e w4 ⟨rfl, hblk4, ht4⟩
    have hmb5 := hmb4.out.keep (ht4.block _ hmb4.out.cells.2.2.2.2.2 (fun e => by omega))
    have hbW4 := Lib.hid (hbX4.out.trans (ht4.below (B := w.heap.size) (fun j e => by rw [e]; exact hs1) hbX4.out.size))
    have hgw4 : w1.heap.size < w4.heap.size := (Array.getElem?_eq_some_iff.1 hblk4).1
    have HG4 := Lib.hid hblk4
    clear HL4 HG3 hbX4 hbW3 hmb4 ht4 hblk4 c0 c1 c2 c3 c4
    obtain ⟨c0, c1, c2, c3, c4, hbl4⟩ := hmb5.cells
    have hX5 : Below w4.heap.size w4 (w4.alloc (.cells #[.int .i64 f, .int .i64 n, .int .i64 c] 3)) := (Below.refl _ _).alloc (Nat.le_refl _) _
    have HL5 := Lib.hid (lay_any (cap := 3) (w := w4.alloc (.cells #[.int .i64 f, .int .i64 n, .int .i64 c] 3)) (g := w1.heap.size) (a := 6) (s := 4) (n := 3) (L := splice (reps 240 0) 0 (headL ++ numsL 1 [d, (k : Int)])) (l := [f, n, c]) ((hX5.block _ hgw4).trans HG4.out) (by rw [length_splice _ _ _ (by rw [reps_length, List.length_append, numsL_length]; show 0 + (4 + 1 * 2) ≤ 240; decide), reps_length]) (RI.lit w4 3 [f, n, c] #[.int .i64 f, .int .i64 n, .int .i64 c] rfl (fun x hx => by
      simp at hx
      rcases hx with rfl | rfl | rfl
      · exact hf
      · exact hn
      · exact hc)) (by simp) (fun _ x hx => by cases hx; show ¬ w4.heap.size = w1.heap.size; omega) (.inr rfl) (by decide) HF3.out)
    rw [show ((6 + 4 * 3 : Nat) : Int) = 18 from rfl, show ((6 : Nat) : Int) = 6 from rfl, show ((4 : Nat) : Int) = 4 from rfl, splice_next (L := reps 240 0) (k := 6) (d := headL ++ numsL 1 [d, (k : Int)]) (by rw [List.length_append, numsL_length]; rfl) (by rw [numsL_length, List.length_append, numsL_length, reps_length]; show 4 + 1 * 2 + 4 * 3 ≤ 240; decide)] at HL5
    have hmb6 := Lib.hid (hmb5.below hX5)
    have hbX5 := Lib.hid (hbW4.out.trans (hX5.mono hbW4.out.size))
    clear hX5 hmb5
    go_wp2_with fail
    refine HL5.out.mono ?_
    rintro e w5 ⟨rfl, hblk5, ht5⟩
    have hmb7 := hmb6.out.keep (ht5.block _ hmb6.out.cells.2.2.2.2.2 (fun e => by omega))
    have hbW5 := Lib.hid (hbX5.out.trans (ht5.below (B := w.heap.size) (fun j e => by rw [e]; exact hs1) hbX5.out.size))
    have hgw5 : w1.heap.size < w5.heap.size := (Array.getElem?_eq_some_iff.1 hblk5).1
    have HG5 := Lib.hid hblk5
    clear HL5 HG4 hbX5 hbW4 hmb6 ht5 hblk5 c0 c1 c2 c3 c4
    obtain ⟨c0, c1, c2, c3, c4, hbl5⟩ := hmb7.cells
    have HL6 := Lib.hid (lay_any (cap := cap) (w := w5) (g := w1.heap.size) (a := 18) (s := 4) (n := k) (L := splice (reps 240 0) 0 (headL ++ numsL 1 [d, (k : Int)] ++ numsL 4 [f, n, c])) (l := l) HG5.out (by rw [length_splice _ _ _ (by rw [reps_length, List.length_append, List.length_append, numsL_length, numsL_length]; show 0 + (4 + 1 * 2 + 4 * 3) ≤ 240; decide), reps_length]) (HR.out.below hbW5.out) hbW5.out.size (fun h0 x hx => by
      obtain ⟨b, off, e, hb, _⟩ := HR.out.2.2 h0
      rw [hx] at e
      cases e
      show ¬ b = w1.heap.size
      omega) (.inr rfl) (by omega) HFD.out)
    have hfr : headL ++ numsL 1 [d, (k : Int)] ++ numsL 4 [f, n, c] ++ numsL 4 l = frontL ⟨d, f, n, c, l⟩ := by
      unfold frontL
      rw [show ((l.length : Nat) : Int) = (k : Int) by rw [hlen.out]]
    rw [show ((18 : Nat) : Int) = 18 from rfl, show ((4 : Nat) : Int) = 4 from rfl, splice_next (L := reps 240 0) (k := 18) (d := headL ++ numsL 1 [d, (k : Int)] ++ numsL 4 [f, n, c]) (by rw [List.length_append, List.length_append, numsL_length, numsL_length]; rfl) (by rw [numsL_length, List.length_append, List.length_append, numsL_length, numsL_length, reps_length, hlen.out]; show 4 + 2 + 12 + 4 * k ≤ 240; omega), hfr, HME.out] at HL6
    clear hfr hmb7
    go_wp2_with fail
    refine HL6.out.mono ?_
    rintro e w6 ⟨rfl, hblk6, ht6⟩
    have hF := Lib.hid (hbW5.out.trans (ht6.below (B := w.heap.size) (fun j e => by rw [e]; exact hs1) hbW5.out.size))
    have hbyt := metaL_bytes ⟨d, f, n, c, l⟩
    have hRB := Lib.hid (NowBlk.rb (w := w6) (g := w1.heap.size) (L := metaL ⟨d, f, n, c, l⟩) ⟨[], by rw [List.append_nil]; exact hblk6⟩ HML.out hbyt)
    clear HL6 hblk6 ht6 hbyt HG5 hbW5 c0 c1 c2 c3 c4
    go_wp2
    go_ret2
    exact ⟨_, 240, 240, rfl, Nat.le_refl _, hRB.out, hF.out⟩

end Go.Proofs.YtfbljmkjiaklfaaGreatDoor
