/-
  Plain: what a store knows of itself, as a page, as the document says. No program.
-/
import Derived.Test.YtenpmaagnljabaaGet
import Derived.Test.YtenpmaagnljabaaPut
import Derived.Test.YtenpmaagnljabaaNumBackP
namespace Go.Proofs.Ytenpmaagnljabaa
open Go.RowKit
set_option maxRecDepth 100000
set_option linter.unusedVariables false

/-- A store's words of itself: depth, free, next, count, directory. -/
structure MV where
  d : Int
  f : Int
  n : Int
  c : Int
  l : List Int
def MV.zero : MV := ⟨0, 0, 0, 0, []⟩
/-- Numbers one behind the other, k bytes each. -/
def numsL (k : Nat) : List Int → List Int
  | [] => []
  | x :: r => putB x k ++ numsL k r
theorem numsL_length (k : Nat) : ∀ l : List Int, (numsL k l).length = k * l.length
  | [] => rfl
  | x :: r => by
    show (putB x k ++ numsL k r).length = _
    rw [List.length_append, putB_length, numsL_length k r, List.length_cons, Nat.mul_add]
    omega
theorem numsL_append (k : Nat) : ∀ l m : List Int, numsL k (l ++ m) = numsL k l ++ numsL k m
  | [], m => rfl
  | x :: r, m => by
    show putB x k ++ numsL k (r ++ m) = putB x k ++ numsL k r ++ numsL k m
    rw [numsL_append k r m, List.append_assoc]
theorem numsL_bytes (k : Nat) : ∀ l : List Int, AllBytes (numsL k l)
  | [] => AllBytes.nil
  | x :: r => AllBytes.append (putB_bytes x k) (numsL_bytes k r)
/-- Each may stand in a page. -/
def fitB (l : List Int) : Bool := l.all fun x => rightB x 4
def mayB (m : MV) : Bool := decide (0 ≤ m.d) && decide (m.d ≤ 10) && decide (1 ≤ m.l.length) && decide (m.l.length ≤ 20) && fitB [m.f, m.n, m.c] && fitB m.l
def headL : List Int := [69, 88, 67, 72]
/-- What stands in a page ahead of the noughts. -/
def frontL (m : MV) : List Int := headL ++ numsL 1 [m.d, (m.l.length : Int)] ++ numsL 4 [m.f, m.n, m.c] ++ numsL 4 m.l
def metaL (m : MV) : List Int := frontL m ++ List.replicate (240 - (frontL m).length) 0
def putM (m : MV) : List Int × Int := if mayB m = true then (metaL m, 0) else ([], 1)
/-- The number that stands in a page. -/
def at_ (data : List Int) (a s : Int) : Int := (getR data a s).1
def cutL (data : List Int) (a s : Int) : Nat → List Int
  | 0 => []
  | k + 1 => cutL data a s k ++ [at_ data (a + k * s) s]
/-- What stands in a page where it should, with so many in the directory. -/
def readM (data : List Int) (k : Nat) : MV := ⟨at_ data 4 1, at_ data 6 4, at_ data 10 4, at_ data 14 4, cutL data 18 4 k⟩
def countM (data : List Int) : Nat := (data[5]?.getD 0).toNat
def isMeta (data : List Int) : Prop := data.length = 240 ∧ mayB (readM data (countM data)) = true ∧ metaL (readM data (countM data)) = data
instance (data : List Int) : Decidable (isMeta data) := by unfold isMeta; infer_instance
def parseM (data : List Int) : MV × Int := if isMeta data then (readM data (countM data), 0) else (MV.zero, 4)
def sameB (a b : MV) : Bool := decide (a.d = b.d) && decide (a.f = b.f) && decide (a.n = b.n) && decide (a.c = b.c) && decide (a.l = b.l)
theorem sameB_iff {a b : MV} : sameB a b = true ↔ a = b := by
  unfold sameB
  cases a; cases b
  simp [and_assoc]
theorem sameB_self (a : MV) : sameB a a = true := sameB_iff.2 rfl

theorem frontL_length (m : MV) : (frontL m).length = 18 + 4 * m.l.length := by
  unfold frontL
  simp only [List.length_append, numsL_length, List.length_cons, List.length_nil]
  show 4 + 1 * 2 + 4 * 3 + 4 * m.l.length = _
  omega
theorem frontL_bytes (m : MV) : AllBytes (frontL m) := by
  unfold frontL
  refine AllBytes.append (AllBytes.append (AllBytes.append ?_ (numsL_bytes _ _)) (numsL_bytes _ _)) (numsL_bytes _ _)
  intro x hx
  unfold headL at hx
  simp at hx
  omega
theorem metaL_bytes (m : MV) : AllBytes (metaL m) := AllBytes.append (frontL_bytes m) fun x hx => by
  obtain rfl := (List.mem_replicate.1 hx).2
  decide
theorem may_few {m : MV} (h : mayB m = true) : (0 ≤ m.d ∧ m.d ≤ 10) ∧ (1 ≤ m.l.length ∧ m.l.length ≤ 20) ∧ fitB [m.f, m.n, m.c] = true ∧ fitB m.l = true := by
  unfold mayB at h
  simp only [Bool.and_eq_true, decide_eq_true_eq] at h
  exact ⟨⟨h.1.1.1.1.1, h.1.1.1.1.2⟩, ⟨h.1.1.1.2, h.1.1.2⟩, h.1.2, h.2⟩
theorem metaL_length {m : MV} (h : m.l.length ≤ 55) : (metaL m).length = 240 := by
  unfold metaL
  rw [List.length_append, List.length_replicate, frontL_length]
  omega
theorem fit_mem {l : List Int} (h : fitB l = true) {x : Int} (hx : x ∈ l) : rightB x 4 = true := List.all_eq_true.1 h x hx
theorem right4 {x : Int} (h : rightB x 4 = true) : 0 ≤ x ∧ x < 4294967296 := by
  unfold rightB at h
  simp at h
  exact h
theorem cutL_length (data : List Int) (a s : Int) : ∀ k, (cutL data a s k).length = k
  | 0 => rfl
  | k + 1 => by
    show (cutL data a s k ++ _).length = _
    rw [List.length_append, cutL_length data a s k]
    rfl

/-- A number is got where it lies. -/
theorem getR_mid (pre suf : List Int) {x : Int} {k : Nat} (hk : rightB x (k : Int) = true) (hx : -9223372036854775808 ≤ x ∧ x ≤ 9223372036854775807) : (getR (pre ++ putB x k ++ suf) (pre.length : Int) (k : Int)).1 = x := by
  have hs : sizeB (k : Int) = true := by
    by_cases hs : sizeB (k : Int) = true
    · exact hs
    · rw [rightB_none (by simpa using hs)] at hk; cases hk
  have h0 := get_put (l := pre) hk hx.1 hx.2
  unfold getR at h0 ⊢
  rw [if_pos ⟨hs, by omega⟩] at h0 ⊢
  unfold putR at h0
  rw [if_pos hk, Int.toNat_natCast] at h0
  have hl : (pre ++ putB x k ++ suf).length = pre.length + k + suf.length := by simp [putB_length, Nat.add_assoc]
  have hl0 : (pre ++ putB x k).length = pre.length + k := by simp [putB_length]
  rw [if_neg (by rw [hl0]; omega)] at h0
  rw [if_neg (by rw [hl]; omega)]
  simp only [Int.toNat_natCast] at h0 ⊢
  have e : ((pre ++ putB x k ++ suf).drop pre.length).take k = ((pre ++ putB x k).drop pre.length).take k := by
    rw [List.append_assoc, List.drop_left, List.drop_left, List.take_left' (putB_length x k), List.take_of_length_le (by rw [putB_length]; omega)]
  rw [e]
  exact congrArg Prod.fst h0
theorem at_mid (data pre suf : List Int) {x a s : Int} {k : Nat} (hd : data = pre ++ putB x k ++ suf) (ha : a = (pre.length : Int)) (hs : s = (k : Int)) (hk : rightB x (k : Int) = true) (hx : -9223372036854775808 ≤ x ∧ x ≤ 9223372036854775807) : at_ data a s = x := by
  subst hd; subst ha; subst hs
  exact getR_mid pre suf hk hx
theorem right1 {x : Int} (h : 0 ≤ x ∧ x < 256) : rightB x 1 = true := by
  unfold rightB
  simp [h]

/-- What is read from a page that was put. -/
theorem cut_meta (pre suf : List Int) : ∀ (l : List Int), fitB l = true → ∀ k, k ≤ l.length → cutL (pre ++ numsL 4 l ++ suf) (pre.length : Int) 4 k = l.take k := by
  intro l hf k
  induction k with
  | zero => intro _; simp [cutL]
  | succ k ih =>
    intro hk
    show cutL _ _ _ k ++ [_] = _
    rw [ih (by omega), List.take_succ_eq_append_getElem (show k < l.length by omega)]
    congr 2
    have hx := right4 (fit_mem hf (List.getElem_mem (show k < l.length by omega)))
    have hr := fit_mem hf (List.getElem_mem (show k < l.length by omega))
    refine at_mid _ (pre ++ numsL 4 (l.take k)) (numsL 4 (l.drop (k + 1)) ++ suf) (k := 4) ?_ ?_ rfl hr ⟨by omega, by omega⟩
    · have e : l = l.take k ++ l[k] :: l.drop (k + 1) := by rw [← List.drop_eq_getElem_cons]; exact (List.take_append_drop k l).symm
      have e2 : numsL 4 l = numsL 4 (l.take k) ++ (putB l[k] 4 ++ numsL 4 (l.drop (k + 1))) := by
        conv => lhs; rw [e]
        rw [numsL_append]; rfl
      rw [e2]
      simp [List.append_assoc]
    · rw [List.length_append, numsL_length, List.length_take, Nat.min_eq_left (by omega)]
      omega
theorem read_meta {m : MV} (h : mayB m = true) : countM (metaL m) = m.l.length ∧ readM (metaL m) m.l.length = m := by
  obtain ⟨⟨h1, h2⟩, ⟨h3, h4⟩, h5, h6⟩ := may_few h
  have hf := right4 (fit_mem h5 (x := m.f) (by simp))
  have hn := right4 (fit_mem h5 (x := m.n) (by simp))
  have hc := right4 (fit_mem h5 (x := m.c) (by simp))
  have rf := fit_mem h5 (x := m.f) (by simp)
  have rn := fit_mem h5 (x := m.n) (by simp)
  have rc := fit_mem h5 (x := m.c) (by simp)
  have e1 : ∀ x : Int, 0 ≤ x ∧ x < 256 → putB x 1 = [x] := fun x hx => by
    show putB (x / 256) 0 ++ [x % 256] = [x]
    show [] ++ [x % 256] = [x]
    rw [List.nil_append, Int.emod_eq_of_lt hx.1 hx.2]
  have hbig : metaL m = headL ++ putB m.d 1 ++ (putB (m.l.length : Int) 1 ++ (putB m.f 4 ++ (putB m.n 4 ++ (putB m.c 4 ++ (numsL 4 m.l ++ List.replicate (240 - (frontL m).length) 0))))) := by
    unfold metaL frontL
    simp [numsL, List.append_assoc]
  have l1 : ∀ x : Int, (putB x 1).length = 1 := fun x => putB_length x 1
  have l4 : ∀ x : Int, (putB x 4).length = 4 := fun x => putB_length x 4
  refine ⟨?_, ?_⟩
  · unfold countM
    rw [hbig, e1 m.d (by omega), e1 _ (show 0 ≤ ((m.l.length : Nat) : Int) ∧ ((m.l.length : Nat) : Int) < 256 by omega)]
    show (((m.l.length : Nat) : Int)).toNat = _
    omega
  · unfold readM
    have c0 : at_ (metaL m) 4 1 = m.d := at_mid _ headL _ (k := 1) hbig rfl rfl (right1 (by omega)) (by omega)
    have c1 : at_ (metaL m) 6 4 = m.f := at_mid _ (headL ++ putB m.d 1 ++ putB (m.l.length : Int) 1) (putB m.n 4 ++ (putB m.c 4 ++ (numsL 4 m.l ++ List.replicate (240 - (frontL m).length) 0))) (k := 4) (by rw [hbig]; simp [List.append_assoc]) (by simp [l1, headL]) rfl rf (by omega)
    have c2 : at_ (metaL m) 10 4 = m.n := at_mid _ (headL ++ putB m.d 1 ++ putB (m.l.length : Int) 1 ++ putB m.f 4) (putB m.c 4 ++ (numsL 4 m.l ++ List.replicate (240 - (frontL m).length) 0)) (k := 4) (by rw [hbig]; simp [List.append_assoc]) (by simp [l1, l4, headL]) rfl rn (by omega)
    have c3 : at_ (metaL m) 14 4 = m.c := at_mid _ (headL ++ putB m.d 1 ++ putB (m.l.length : Int) 1 ++ putB m.f 4 ++ putB m.n 4) (numsL 4 m.l ++ List.replicate (240 - (frontL m).length) 0) (k := 4) (by rw [hbig]; simp [List.append_assoc]) (by simp [l1, l4, headL]) rfl rc (by omega)
    have c4 : cutL (metaL m) 18 4 m.l.length = m.l := by
      have := cut_meta (headL ++ putB m.d 1 ++ putB (m.l.length : Int) 1 ++ putB m.f 4 ++ putB m.n 4 ++ putB m.c 4) (List.replicate (240 - (frontL m).length) 0) m.l h6 m.l.length (Nat.le_refl _)
      rw [List.take_of_length_le (Nat.le_refl _)] at this
      have e : (headL ++ putB m.d 1 ++ putB (m.l.length : Int) 1 ++ putB m.f 4 ++ putB m.n 4 ++ putB m.c 4).length = 18 := by simp [l1, l4, headL]
      rw [e] at this
      have e2 : headL ++ putB m.d 1 ++ putB (m.l.length : Int) 1 ++ putB m.f 4 ++ putB m.n 4 ++ putB m.c 4 ++ numsL 4 m.l ++ List.replicate (240 - (frontL m).length) 0 = metaL m := by rw [hbig]; simp [List.append_assoc]
      rw [e2] at this
      exact this
    rw [c0, c1, c2, c3, c4]
theorem isMeta_put {m : MV} (h : mayB m = true) : isMeta (metaL m) ∧ parseM (metaL m) = (m, 0) := by
  obtain ⟨e1, e2⟩ := read_meta h
  have hm : isMeta (metaL m) := ⟨metaL_length (by have := (may_few h).2.1.2; omega), by rw [e1, e2]; exact h, by rw [e1, e2]⟩
  refine ⟨hm, ?_⟩
  unfold parseM
  rw [if_pos hm, e1, e2]
/-- A page tells how many its directory has. -/
theorem meta_count {m : MV} (h : m.l.length ≤ 55) (h2 : mayB m = true) : (metaL m)[5]? = some (m.l.length : Int) := by
  obtain ⟨⟨h1, h2⟩, ⟨h3, h4⟩, _⟩ := may_few h2
  have e1 : ∀ x : Int, 0 ≤ x ∧ x < 256 → putB x 1 = [x] := fun x hx => by
    show putB (x / 256) 0 ++ [x % 256] = [x]
    show [] ++ [x % 256] = [x]
    rw [List.nil_append, Int.emod_eq_of_lt hx.1 hx.2]
  have hbig : metaL m = headL ++ putB m.d 1 ++ (putB (m.l.length : Int) 1 ++ (numsL 4 [m.f, m.n, m.c] ++ (numsL 4 m.l ++ List.replicate (240 - (frontL m).length) 0))) := by
    unfold metaL frontL
    simp [numsL, List.append_assoc]
  rw [hbig, e1 m.d (by omega), e1 _ (show 0 ≤ ((m.l.length : Nat) : Int) ∧ ((m.l.length : Nat) : Int) < 256 by omega)]
  rfl
/-- The plain Parse looks at twenty of the directory at most: that makes no difference. -/
theorem parse_twenty {data : List Int} (hl : data.length = 240) (hb : AllBytes data) :
    (mayB (readM data (min (countM data) 20)) = true ∧ metaL (readM data (min (countM data) 20)) = data) ↔ isMeta data := by
  have hlen : ∀ k, (readM data k).l.length = k := fun k => cutL_length _ _ _ k
  constructor
  · rintro ⟨h1, h2⟩
    have hc := meta_count (m := readM data (min (countM data) 20)) (by rw [hlen]; omega) h1
    rw [h2, hlen] at hc
    have : countM data = min (countM data) 20 := by
      conv => lhs; unfold countM
      rw [hc, Option.getD_some, Int.toNat_natCast]
    rw [← this] at h1 h2
    exact ⟨hl, h1, h2⟩
  · rintro ⟨_, h1, h2⟩
    have := (may_few h1).2.1.2
    rw [hlen] at this
    rw [Nat.min_eq_left this]
    exact ⟨h1, h2⟩

end Go.Proofs.Ytenpmaagnljabaa
