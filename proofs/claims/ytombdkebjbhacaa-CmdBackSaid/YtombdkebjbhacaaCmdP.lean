/-
  Commands as plain lists of bytes: a command's bytes, which commands have some, what is read of any bytes; what is read of a command's bytes is the command. Plain facts; no condition beyond what each says.
-/
import Derived.Test.YtombdkebjbhacaaFldP
import Derived.Test.YtombdkebjbhacaaLinP
import Derived.Test.YtombdkebjbhacaaEqual
namespace Go.Proofs.Ytombdkebjbhacaa
open Go.RowKit
set_option maxRecDepth 100000
set_option linter.unusedVariables false

/-- A command: kind, year, next, fund, object, node, parent, document, line, amount, absolute, name, lines. -/
structure Cm where
  k : Int
  y : Int
  n : Int
  f : Int
  o : Int
  d : Int
  p : Int
  c : Int
  i : Int
  a : Int
  ab : Bool
  nm : ByteArray
  ls : List Ln
theorem cm_ext {x y : Cm} (h : x.k = y.k ∧ x.y = y.y ∧ x.n = y.n ∧ x.f = y.f ∧ x.o = y.o ∧ x.d = y.d ∧ x.p = y.p ∧ x.c = y.c ∧ x.i = y.i ∧ x.a = y.a ∧ x.ab = y.ab ∧ x.nm = y.nm ∧ x.ls = y.ls) : x = y := by
  obtain ⟨h1, h2, h3, h4, h5, h6, h7, h8, h9, h10, h11, h12, h13⟩ := h
  cases x; cases y
  simp only at h1 h2 h3 h4 h5 h6 h7 h8 h9 h10 h11 h12 h13
  subst h1; subst h2; subst h3; subst h4; subst h5; subst h6; subst h7; subst h8; subst h9; subst h10; subst h11; subst h12; subst h13
  rfl
/-- All its numbers are ints. -/
def CmOk (x : Cm) : Prop := B64 x.k ∧ B64 x.y ∧ B64 x.n ∧ B64 x.f ∧ B64 x.o ∧ B64 x.d ∧ B64 x.p ∧ B64 x.c ∧ B64 x.i ∧ B64 x.a ∧ ∀ l ∈ x.ls, LnOk l
def cm0 : Cm := ⟨0, 0, 0, 0, 0, 0, 0, 0, 0, 0, false, ⟨#[]⟩, []⟩
theorem b64_0 : B64 0 := by unfold B64; omega
theorem cm0_ok : CmOk cm0 := ⟨b64_0, b64_0, b64_0, b64_0, b64_0, b64_0, b64_0, b64_0, b64_0, b64_0, fun _ h => by cases h⟩
/-- A text's bytes. -/
def sb (s : ByteArray) : List Int := s.data.toList.map fun u => (u.toNat : Int)
theorem sb_length (s : ByteArray) : (sb s).length = s.size := by
  unfold sb
  rw [List.length_map, Array.length_toList]
  rfl
theorem sb_bytes (s : ByteArray) : AllBytes (sb s) := by
  intro y hy
  obtain ⟨u, _, rfl⟩ := List.mem_map.1 hy
  have := u.toNat_lt
  omega
theorem str_sb (s : ByteArray) : strOfNums (sb s) = s := by
  unfold strOfNums sb
  rw [List.map_map]
  have : (fun n : Int => UInt8.ofNat n.toNat) ∘ (fun u : UInt8 => (u.toNat : Int)) = id := by
    funext u
    simp
  rw [this, List.map_id]
def knownB (k : Int) : Bool := decide (1 ≤ k ∧ k ≤ 20)
def asksB (k : Int) : Bool := decide (14 ≤ k ∧ k ≤ 20)
def allR (s : Int) (l : List Int) : Bool := l.all fun n => rightB n s
/-- Numbers put one behind the other; what is not right is left out. -/
def layL (s : Int) (l : List Int) : List Int := l.flatMap fun n => putR [] n s
def ab1 (b : Bool) : Int := if b = true then 1 else 0
def n6 (x : Cm) : List Int := [x.y, x.n, x.f, x.o, x.d, x.p]
def ln3 (x : Ln) : List Int := [x.f, x.o, x.n]
def linesL (l : List Ln) : List Int := l.flatMap fun x => layL 2 (ln3 x) ++ layL 8 [x.a]
def encL (x : Cm) : List Int := layL 1 [x.k] ++ layL 2 (n6 x) ++ layL 4 [x.c] ++ layL 1 [x.i] ++ layL 8 [x.a] ++ layL 1 [ab1 x.ab, (x.nm.size : Int)] ++ sb x.nm ++ layL 1 [(x.ls.length : Int)] ++ linesL x.ls
def mayC (x : Cm) : Bool := knownB x.k && allR 2 (n6 x) && allR 4 [x.c] && allR 1 [x.i] && x.ls.all (fun l => allR 2 (ln3 l)) && decide (x.nm.size ≤ 255) && decide (x.ls.length ≤ 255)
/-- What the program finds wrong. -/
def wrongL (l : List Ln) : Bool := l.any fun x => !allR 2 (ln3 x) || !allR 8 [x.a]
def wrongC (x : Cm) : Bool := !knownB x.k || !allR 1 [x.k] || !allR 2 (n6 x) || !allR 4 [x.c] || !allR 1 [x.i] || !allR 8 [x.a] || !allR 1 [ab1 x.ab, (x.nm.size : Int)] || !allR 1 [(x.ls.length : Int)] || wrongL x.ls

theorem right1 (n : Int) : rightB n 1 = decide (0 ≤ n ∧ n < 256) := by unfold rightB; simp
theorem right2 (n : Int) : rightB n 2 = decide (0 ≤ n ∧ n < 65536) := by unfold rightB; simp
theorem right4 (n : Int) : rightB n 4 = decide (0 ≤ n ∧ n < 4294967296) := by unfold rightB; simp
theorem right8 (n : Int) : rightB n 8 = true := by unfold rightB; simp
theorem wrongL_eq (l : List Ln) : wrongL l = !(l.all fun x => allR 2 (ln3 x)) := by
  unfold wrongL
  induction l with
  | nil => rfl
  | cons x r ih => rw [List.any_cons, List.all_cons, ih]; simp [allR, right8]
theorem ab1_right (b : Bool) : rightB (ab1 b) 1 = true := by cases b <;> rfl
theorem wrong_may (x : Cm) : wrongC x = !mayC x := by
  unfold wrongC mayC
  rw [wrongL_eq]
  have hk : knownB x.k = true → allR 1 [x.k] = true := by
    unfold knownB allR
    simp [right1]
    omega
  have h8 : allR 8 [x.a] = true := by simp [allR, right8]
  have h1 : allR 1 [ab1 x.ab, (x.nm.size : Int)] = decide (x.nm.size ≤ 255) := by
    unfold allR
    rw [List.all_cons, List.all_cons, List.all_nil, ab1_right, right1, Bool.true_and, Bool.and_true]
    exact decide_eq_decide.2 (by omega)
  have h2 : allR 1 [(x.ls.length : Int)] = decide (x.ls.length ≤ 255) := by
    unfold allR
    rw [List.all_cons, List.all_nil, right1, Bool.and_true]
    exact decide_eq_decide.2 (by omega)
  rw [h8, h1, h2]
  generalize allR 2 (n6 x) = b1
  generalize allR 4 [x.c] = b2
  generalize allR 1 [x.i] = b3
  generalize (x.ls.all fun l => allR 2 (ln3 l)) = b4
  generalize decide (x.nm.size ≤ 255) = b5
  generalize decide (x.ls.length ≤ 255) = b6
  cases e : knownB x.k
  · simp
  · rw [hk e]
    cases b1 <;> cases b2 <;> cases b3 <;> cases b4 <;> cases b5 <;> cases b6 <;> rfl

theorem layL_nil (s : Int) : layL s [] = [] := rfl
theorem layL_append (s : Int) (l m : List Int) : layL s (l ++ m) = layL s l ++ layL s m := by simp [layL]
theorem layL_one (s x : Int) : layL s [x] = putR [] x s := by simp [layL]
theorem layL_step (s : Int) (l : List Int) (j : Nat) (h : j < l.length) : layL s (l.take (j + 1)) = layL s (l.take j) ++ putR [] (l[j]?.getD 0) s := by
  rw [List.take_succ_eq_append_getElem h, layL_append, layL_one]
  simp [List.getElem?_eq_getElem h]
theorem allR_step (s : Int) (l : List Int) (j : Nat) (h : j < l.length) : allR s (l.take (j + 1)) = (allR s (l.take j) && rightB (l[j]?.getD 0) s) := by
  unfold allR
  rw [List.take_succ_eq_append_getElem h, List.all_append]
  simp [List.getElem?_eq_getElem h]
theorem layL_bytes (s : Int) (l : List Int) : AllBytes (layL s l) := fun x hx => by
  obtain ⟨n, _, hn⟩ := List.mem_flatMap.1 hx
  exact putR_bytes AllBytes.nil n s x hn
theorem layL_len (s : Int) (l : List Int) : (layL s l).length ≤ 8 * l.length := by
  induction l with
  | nil => simp [layL]
  | cons x r ih =>
    have : layL s (x :: r) = putR [] x s ++ layL s r := rfl
    rw [this, List.length_append, List.length_cons]
    have := putR_length [] x s
    simp only [List.length_nil] at this
    omega
theorem linesL_bytes (l : List Ln) : AllBytes (linesL l) := fun x hx => by
  obtain ⟨n, _, hn⟩ := List.mem_flatMap.1 hx
  exact (layL_bytes _ _).append (layL_bytes _ _) x hn
theorem linesL_append (l m : List Ln) : linesL (l ++ m) = linesL l ++ linesL m := by simp [linesL]
theorem linesL_step (l : List Ln) (j : Nat) (x : Ln) (h : l[j]? = some x) : linesL (l.take (j + 1)) = linesL (l.take j) ++ layL 2 (ln3 x) ++ layL 8 [x.a] := by
  obtain ⟨hj, e⟩ := List.getElem?_eq_some_iff.1 h
  rw [List.take_succ_eq_append_getElem hj, linesL_append, e, List.append_assoc]
  simp [linesL]
theorem wrongL_step (l : List Ln) (j : Nat) (x : Ln) (h : l[j]? = some x) : wrongL (l.take (j + 1)) = (wrongL (l.take j) || !allR 2 (ln3 x) || !allR 8 [x.a]) := by
  obtain ⟨hj, e⟩ := List.getElem?_eq_some_iff.1 h
  rw [List.take_succ_eq_append_getElem hj, e]
  simp [wrongL, Bool.or_assoc]
theorem linesL_len (l : List Ln) : (linesL l).length ≤ 32 * l.length := by
  induction l with
  | nil => simp [linesL]
  | cons x r ih =>
    have : linesL (x :: r) = layL 2 (ln3 x) ++ layL 8 [x.a] ++ linesL r := rfl
    rw [this, List.length_append, List.length_append, List.length_cons]
    have h1 := layL_len 2 (ln3 x)
    have h2 := layL_len 8 [x.a]
    have e1 : (ln3 x).length = 3 := rfl
    have e2 : [x.a].length = 1 := rfl
    rw [e1] at h1
    rw [e2] at h2
    omega
theorem encL_bytes (x : Cm) : AllBytes (encL x) :=
  (((((((((layL_bytes _ _).append (layL_bytes _ _)).append (layL_bytes _ _)).append (layL_bytes _ _)).append (layL_bytes _ _)).append (layL_bytes _ _)).append (sb_bytes _)).append (layL_bytes _ _)).append (linesL_bytes _))

/-- A number as it stands in bytes; 0 where it would stand behind the end. -/
def rdN (b : List Int) (a s : Nat) : Int := (getR b (a : Int) (s : Int)).1
def rdLn (b : List Int) (a : Nat) : Ln := ⟨rdN b a 2, rdN b (a + 2) 2, rdN b (a + 4) 2, rdN b (a + 6) 8⟩
def rdLines (b : List Int) (a m : Nat) : List Ln := (List.range m).map fun j => rdLn b (a + 14 * j)
/-- What is read of any bytes: the program's, the document's. -/
def readP (b : List Int) : Cm := ⟨rdN b 0 1, rdN b 1 2, rdN b 3 2, rdN b 5 2, rdN b 7 2, rdN b 9 2, rdN b 11 2, rdN b 13 4, rdN b 17 1, rdN b 18 8, decide (rdN b 26 1 ≠ 0), strOfNums ((b.drop 28).take (rdN b 27 1).toNat), rdLines b (29 + (rdN b 27 1).toNat) (rdN b (28 + (rdN b 27 1).toNat) 1).toNat⟩
def readR (b : List Int) : Cm := ⟨rdN b 0 1, rdN b 1 2, rdN b 3 2, rdN b 5 2, rdN b 7 2, rdN b 9 2, rdN b 11 2, rdN b 13 4, rdN b 17 1, rdN b 18 8, decide (rdN b 26 1 = 1), strOfNums ((b.drop 28).take (rdN b 27 1).toNat), rdLines b (29 + (rdN b 27 1).toNat) (rdN b (28 + (rdN b 27 1).toNat) 1).toNat⟩
def shapeB (b : List Int) : Prop := 29 ≤ b.length ∧ 28 + (rdN b 27 1).toNat < b.length ∧ b.length = 29 + (rdN b 27 1).toNat + 14 * (rdN b (28 + (rdN b 27 1).toNat) 1).toNat
instance (b : List Int) : Decidable (shapeB b) := by unfold shapeB; infer_instance
def decP (b : List Int) : Cm × Int := if mayC (readP b) = true ∧ encL (readP b) = b then (readP b, 0) else (cm0, 14)
def decR (b : List Int) : Cm × Int := if shapeB b ∧ mayC (readR b) = true ∧ encL (readR b) = b then (readR b, 0) else (cm0, 14)

theorem getR_ints (b : List Int) (hb : AllBytes b) (a s : Int) : B64 (getR b a s).1 := by
  unfold getR
  split
  · split
    · exact b64_0
    · exact numOf_bound _ ((hb.drop _).take _)
  · exact b64_0
theorem rdN_int (b : List Int) (hb : AllBytes b) (a s : Nat) : B64 (rdN b a s) := getR_ints b hb _ _
theorem rdN_byte (b : List Int) (hb : AllBytes b) (a : Nat) : rdN b a 1 = b[a]?.getD 0 := by
  unfold rdN getR
  rw [if_pos ⟨by decide, by omega⟩]
  split
  · rename_i h
    rw [List.getElem?_eq_none (by omega)]; rfl
  · rename_i h
    have ha : a < b.length := by omega
    rw [List.getElem?_eq_getElem ha]
    have e : (b.drop (a : Int).toNat).take ((1 : Nat) : Int).toNat = [b[a]] := by
      rw [Int.toNat_natCast, Int.toNat_natCast, List.drop_eq_getElem_cons ha]; rfl
    rw [e]
    obtain ⟨h0, h1⟩ := hb _ (List.getElem_mem ha)
    show stepN 0 b[a] = b[a]
    rw [stepN_eq _ _ h0 h1]
    unfold wrap64
    omega
theorem rdN_1 (b : List Int) (hb : AllBytes b) (a : Nat) : 0 ≤ rdN b a 1 ∧ rdN b a 1 < 256 := by
  rw [rdN_byte b hb]; exact hb.getD a

theorem rd_ge (p r : List Int) (a s m : Nat) (hp : p.length = m) (h : m ≤ a) : rdN (p ++ r) a s = rdN r (a - m) s := by
  unfold rdN getR
  subst hp
  have e : (p ++ r).drop (a : Int).toNat = r.drop ((a - p.length : Nat) : Int).toNat := by
    rw [Int.toNat_natCast, Int.toNat_natCast, List.drop_append, List.drop_eq_nil_of_le h, List.nil_append]
  have e2 : (((p ++ r).length : Nat) : Int) = p.length + r.length := by simp
  rw [e, e2]
  by_cases hs : sizeB (s : Int) = true
  · have c1 : sizeB (s : Int) = true ∧ (0 : Int) ≤ (a : Int) := ⟨hs, by omega⟩
    have c2 : sizeB (s : Int) = true ∧ (0 : Int) ≤ ((a - p.length : Nat) : Int) := ⟨hs, by omega⟩
    rw [if_pos c1, if_pos c2]
    by_cases hg : (a : Int) > (p.length : Int) + r.length - s
    · have hg' : ((a - p.length : Nat) : Int) > (r.length : Int) - s := by omega
      rw [if_pos hg, if_pos hg']
    · have hg' : ¬ ((a - p.length : Nat) : Int) > (r.length : Int) - s := by omega
      rw [if_neg hg, if_neg hg']
  · rw [if_neg (fun h => hs h.1), if_neg (fun h => hs h.1)]
theorem rd_here (x : Int) (r : List Int) (s : Nat) (h : rightB x (s : Int) = true) (hx : B64 x) : rdN (putB x s ++ r) 0 s = x := by
  have hs := right_size h
  have hsz : sizeB (s : Int) = true := by unfold sizeB; exact decide_eq_true hs
  unfold rdN getR
  rw [if_pos ⟨hsz, by omega⟩, if_neg (by rw [List.length_append, putB_length]; omega)]
  show numOf _ = x
  rw [show (((0 : Nat) : Int)).toNat = 0 from rfl, List.drop_zero, Int.toNat_natCast, List.take_append_of_le_length (by rw [putB_length]; omega), List.take_of_length_le (by rw [putB_length]; omega)]
  have := wrap_putB (x := x) (s := (s : Int)) h hx.1 hx.2
  rwa [Int.toNat_natCast] at this
theorem put_right {x s : Int} (h : rightB x s = true) : putR [] x s = putB x s.toNat := by unfold putR; rw [if_pos h, List.nil_append]

/-- Lines' bytes, all right: 14 each. -/
theorem lnL_right {x : Ln} (h : allR 2 (ln3 x) = true) : layL 2 (ln3 x) ++ layL 8 [x.a] = putB x.f 2 ++ (putB x.o 2 ++ (putB x.n 2 ++ putB x.a 8)) := by
  simp only [allR, ln3, List.all_cons, List.all_nil, Bool.and_true, Bool.and_eq_true] at h
  obtain ⟨h1, h2, h3⟩ := h
  show (putR [] x.f 2 ++ (putR [] x.o 2 ++ (putR [] x.n 2 ++ []))) ++ (putR [] x.a 8 ++ []) = _
  rw [put_right h1, put_right h2, put_right h3, put_right (right8 _)]
  simp [List.append_assoc]
theorem lines_read : ∀ (l : List Ln) (p : List Int) (a : Nat), p.length = a → (∀ x ∈ l, LnOk x) → (l.all fun x => allR 2 (ln3 x)) = true → rdLines (p ++ linesL l) a l.length = l ∧ (linesL l).length = 14 * l.length
  | [], p, a, _, _, _ => ⟨rfl, rfl⟩
  | x :: r, p, a, hp, hok, h => by
    rw [List.all_cons, Bool.and_eq_true] at h
    have e0 : linesL (x :: r) = (putB x.f 2 ++ (putB x.o 2 ++ (putB x.n 2 ++ putB x.a 8))) ++ linesL r := by
      rw [← lnL_right h.1]; rfl
    have hl14 : (putB x.f 2 ++ (putB x.o 2 ++ (putB x.n 2 ++ putB x.a 8))).length = 14 := by simp [putB_length]
    obtain ⟨h1, h2⟩ := lines_read r (p ++ (putB x.f 2 ++ (putB x.o 2 ++ (putB x.n 2 ++ putB x.a 8)))) (a + 14) (by rw [List.length_append, hl14, hp]) (fun y hy => hok y (List.mem_cons_of_mem _ hy)) h.2
    obtain ⟨ok1, ok2, ok3, ok4⟩ := hok x (List.mem_cons_self ..)
    have hr := h.1
    simp only [allR, ln3, List.all_cons, List.all_nil, Bool.and_true, Bool.and_eq_true] at hr
    obtain ⟨r1, r2, r3⟩ := hr
    constructor
    · unfold rdLines at h1 ⊢
      rw [List.length_cons, List.range_succ_eq_map, List.map_cons, List.map_map]
      rw [e0, ← List.append_assoc]
      refine congr (congrArg List.cons ?_) ?_
      · have g : ∀ j s, rdN (p ++ (putB x.f 2 ++ (putB x.o 2 ++ (putB x.n 2 ++ putB x.a 8))) ++ linesL r) (a + j) s = rdN (putB x.f 2 ++ (putB x.o 2 ++ (putB x.n 2 ++ (putB x.a 8 ++ linesL r)))) j s := fun j s => by
          rw [List.append_assoc, rd_ge p _ (a + j) s a hp (by omega), show a + j - a = j by omega]
          simp only [List.append_assoc]
        show rdLn _ (a + 14 * 0) = x
        unfold rdLn
        have e1 := g 0 2
        have e2 := g 2 2
        have e3 := g 4 2
        have e4 := g 6 8
        rw [rd_here _ _ 2 r1 ok1] at e1
        rw [rd_ge _ _ 2 2 2 (putB_length _ _) (by decide), rd_here _ _ 2 r2 ok2] at e2
        rw [rd_ge _ _ 4 2 2 (putB_length _ _) (by decide), rd_ge _ _ (4 - 2) 2 2 (putB_length _ _) (by decide), rd_here _ _ 2 r3 ok3] at e3
        rw [rd_ge _ _ 6 8 2 (putB_length _ _) (by decide), rd_ge _ _ (6 - 2) 8 2 (putB_length _ _) (by decide), rd_ge _ _ (6 - 2 - 2) 8 2 (putB_length _ _) (by decide), rd_here _ _ 8 (right8 _) ok4] at e4
        rw [show a + 14 * 0 = a from by omega]
        rw [Nat.add_zero] at e1
        rw [e1, e2, e3, e4]
      · refine Eq.trans (List.map_congr_left fun j _ => ?_) h1
        show rdLn _ (a + 14 * (j + 1)) = rdLn _ (a + 14 + 14 * j)
        rw [show a + 14 * (j + 1) = a + 14 + 14 * j by omega]
    · rw [e0, List.length_append, hl14, h2, List.length_cons]; omega

set_option maxHeartbeats 3200000 in
/-- What is read of a command's bytes is the command. -/
theorem enc_read (x : Cm) (hx : CmOk x) (hm : mayC x = true) : shapeB (encL x) ∧ readP (encL x) = x ∧ readR (encL x) = x := by
  obtain ⟨o1, o2, o3, o4, o5, o6, o7, o8, o9, o10, ol⟩ := hx
  unfold mayC at hm
  simp only [Bool.and_eq_true, decide_eq_true_eq] at hm
  obtain ⟨⟨⟨⟨⟨⟨m1, m2⟩, m3⟩, m4⟩, m5⟩, m6⟩, m7⟩ := hm
  have r1 : rightB x.k 1 = true := by
    unfold knownB at m1; rw [decide_eq_true_eq] at m1
    rw [right1]; simp; omega
  simp only [allR, n6, List.all_cons, List.all_nil, Bool.and_true, Bool.and_eq_true] at m2 m3 m4
  obtain ⟨r2, r3, r4, r5, r6, r7⟩ := m2
  have rs : rightB (x.nm.size : Int) 1 = true := by rw [right1]; simp; omega
  have rl : rightB (x.ls.length : Int) 1 = true := by rw [right1]; simp; omega
  have ra := ab1_right x.ab
  have hE : encL x = putB x.k 1 ++ (putB x.y 2 ++ (putB x.n 2 ++ (putB x.f 2 ++ (putB x.o 2 ++ (putB x.d 2 ++ (putB x.p 2 ++ (putB x.c 4 ++ (putB x.i 1 ++ (putB x.a 8 ++ (putB (ab1 x.ab) 1 ++ (putB (x.nm.size : Int) 1 ++ (sb x.nm ++ (putB (x.ls.length : Int) 1 ++ linesL x.ls))))))))))))) := by
    unfold encL layL n6
    simp only [List.flatMap_cons, List.flatMap_nil, List.append_nil]
    rw [put_right r1, put_right r2, put_right r3, put_right r4, put_right r5, put_right r6, put_right r7, put_right m3, put_right m4, put_right (right8 _), put_right ra, put_right rs, put_right rl]
    simp only [List.append_assoc]
    rfl
  have hlen := (lines_read x.ls [] 0 rfl ol m5).2
  have G : ∀ a s : Nat, 28 ≤ a → rdN (encL x) a s = rdN (sb x.nm ++ (putB (x.ls.length : Int) 1 ++ linesL x.ls)) (a - 28) s := fun a s ha => by
    rw [hE, rd_ge _ _ a s 1 (putB_length _ _) (by omega), rd_ge _ _ _ s 2 (putB_length _ _) (by omega), rd_ge _ _ _ s 2 (putB_length _ _) (by omega), rd_ge _ _ _ s 2 (putB_length _ _) (by omega), rd_ge _ _ _ s 2 (putB_length _ _) (by omega), rd_ge _ _ _ s 2 (putB_length _ _) (by omega), rd_ge _ _ _ s 2 (putB_length _ _) (by omega), rd_ge _ _ _ s 4 (putB_length _ _) (by omega), rd_ge _ _ _ s 1 (putB_length _ _) (by omega), rd_ge _ _ _ s 8 (putB_length _ _) (by omega), rd_ge _ _ _ s 1 (putB_length _ _) (by omega), rd_ge _ _ _ s 1 (putB_length _ _) (by omega)]
    rw [show a - 1 - 2 - 2 - 2 - 2 - 2 - 2 - 4 - 1 - 8 - 1 - 1 = a - 28 by omega]
  have k0 : rdN (encL x) 0 1 = x.k := by rw [hE]; exact rd_here _ _ 1 r1 o1
  have k1 : rdN (encL x) 1 2 = x.y := by
    rw [hE, rd_ge _ _ 1 2 1 (putB_length _ _) (by decide)]; exact rd_here _ _ 2 r2 o2
  have k2 : rdN (encL x) 3 2 = x.n := by
    rw [hE, rd_ge _ _ 3 2 1 (putB_length _ _) (by decide), rd_ge _ _ (3 - 1) 2 2 (putB_length _ _) (by decide)]; exact rd_here _ _ 2 r3 o3
  have k3 : rdN (encL x) 5 2 = x.f := by
    rw [hE, rd_ge _ _ 5 2 1 (putB_length _ _) (by decide), rd_ge _ _ (5 - 1) 2 2 (putB_length _ _) (by decide), rd_ge _ _ (5 - 1 - 2) 2 2 (putB_length _ _) (by decide)]; exact rd_here _ _ 2 r4 o4
  have k4 : rdN (encL x) 7 2 = x.o := by
    rw [hE, rd_ge _ _ 7 2 1 (putB_length _ _) (by decide), rd_ge _ _ (7 - 1) 2 2 (putB_length _ _) (by decide), rd_ge _ _ (7 - 1 - 2) 2 2 (putB_length _ _) (by decide), rd_ge _ _ (7 - 1 - 2 - 2) 2 2 (putB_length _ _) (by decide)]; exact rd_here _ _ 2 r5 o5
  have k5 : rdN (encL x) 9 2 = x.d := by
    rw [hE, rd_ge _ _ 9 2 1 (putB_length _ _) (by decide), rd_ge _ _ (9 - 1) 2 2 (putB_length _ _) (by decide), rd_ge _ _ (9 - 1 - 2) 2 2 (putB_length _ _) (by decide), rd_ge _ _ (9 - 1 - 2 - 2) 2 2 (putB_length _ _) (by decide), rd_ge _ _ (9 - 1 - 2 - 2 - 2) 2 2 (putB_length _ _) (by decide)]; exact rd_here _ _ 2 r6 o6
  have k6 : rdN (encL x) 11 2 = x.p := by
    rw [hE, rd_ge _ _ 11 2 1 (putB_length _ _) (by decide), rd_ge _ _ (11 - 1) 2 2 (putB_length _ _) (by decide), rd_ge _ _ (11 - 1 - 2) 2 2 (putB_length _ _) (by decide), rd_ge _ _ (11 - 1 - 2 - 2) 2 2 (putB_length _ _) (by decide), rd_ge _ _ (11 - 1 - 2 - 2 - 2) 2 2 (putB_length _ _) (by decide), rd_ge _ _ (11 - 1 - 2 - 2 - 2 - 2) 2 2 (putB_length _ _) (by decide)]; exact rd_here _ _ 2 r7 o7
  have G13 : ∀ a s : Nat, 13 ≤ a → rdN (encL x) a s = rdN (putB x.c 4 ++ (putB x.i 1 ++ (putB x.a 8 ++ (putB (ab1 x.ab) 1 ++ (putB (x.nm.size : Int) 1 ++ (sb x.nm ++ (putB (x.ls.length : Int) 1 ++ linesL x.ls))))))) (a - 13) s := fun a s ha => by
    rw [hE, rd_ge _ _ a s 1 (putB_length _ _) (by omega), rd_ge _ _ _ s 2 (putB_length _ _) (by omega), rd_ge _ _ _ s 2 (putB_length _ _) (by omega), rd_ge _ _ _ s 2 (putB_length _ _) (by omega), rd_ge _ _ _ s 2 (putB_length _ _) (by omega), rd_ge _ _ _ s 2 (putB_length _ _) (by omega), rd_ge _ _ _ s 2 (putB_length _ _) (by omega)]
    rw [show a - 1 - 2 - 2 - 2 - 2 - 2 - 2 = a - 13 by omega]
  have k7 : rdN (encL x) 13 4 = x.c := by rw [G13 13 4 (by decide)]; exact rd_here _ _ 4 m3 o8
  have k8 : rdN (encL x) 17 1 = x.i := by
    rw [G13 17 1 (by decide), rd_ge _ _ (17 - 13) 1 4 (putB_length _ _) (by decide)]; exact rd_here _ _ 1 m4 o9
  have k9 : rdN (encL x) 18 8 = x.a := by
    rw [G13 18 8 (by decide), rd_ge _ _ (18 - 13) 8 4 (putB_length _ _) (by decide), rd_ge _ _ (18 - 13 - 4) 8 1 (putB_length _ _) (by decide)]; exact rd_here _ _ 8 (right8 _) o10
  have k10 : rdN (encL x) 26 1 = ab1 x.ab := by
    rw [G13 26 1 (by decide), rd_ge _ _ (26 - 13) 1 4 (putB_length _ _) (by decide), rd_ge _ _ (26 - 13 - 4) 1 1 (putB_length _ _) (by decide), rd_ge _ _ (26 - 13 - 4 - 1) 1 8 (putB_length _ _) (by decide)]
    exact rd_here _ _ 1 ra (by unfold ab1 B64; split <;> omega)
  have k11 : rdN (encL x) 27 1 = (x.nm.size : Int) := by
    rw [G13 27 1 (by decide), rd_ge _ _ (27 - 13) 1 4 (putB_length _ _) (by decide), rd_ge _ _ (27 - 13 - 4) 1 1 (putB_length _ _) (by decide), rd_ge _ _ (27 - 13 - 4 - 1) 1 8 (putB_length _ _) (by decide), rd_ge _ _ (27 - 13 - 4 - 1 - 8) 1 1 (putB_length _ _) (by decide)]
    exact rd_here _ _ 1 rs (by unfold B64; omega)
  have k12 : rdN (encL x) (28 + x.nm.size) 1 = (x.ls.length : Int) := by
    rw [G _ 1 (by omega), rd_ge _ _ _ 1 x.nm.size (sb_length _) (by omega), show 28 + x.nm.size - 28 - x.nm.size = 0 by omega]
    exact rd_here _ _ 1 rl (by unfold B64; omega)
  have k13 : ((encL x).drop 28).take x.nm.size = sb x.nm := by
    have h28 : encL x = (putB x.k 1 ++ putB x.y 2 ++ putB x.n 2 ++ putB x.f 2 ++ putB x.o 2 ++ putB x.d 2 ++ putB x.p 2 ++ putB x.c 4 ++ putB x.i 1 ++ putB x.a 8 ++ putB (ab1 x.ab) 1 ++ putB (x.nm.size : Int) 1) ++ (sb x.nm ++ (putB (x.ls.length : Int) 1 ++ linesL x.ls)) := by
      rw [hE]; simp only [List.append_assoc]
    rw [h28, List.drop_left' (by simp [putB_length]), List.take_left' (sb_length _)]
  have k14 : rdLines (encL x) (29 + x.nm.size) x.ls.length = x.ls := by
    have h29 : encL x = (putB x.k 1 ++ putB x.y 2 ++ putB x.n 2 ++ putB x.f 2 ++ putB x.o 2 ++ putB x.d 2 ++ putB x.p 2 ++ putB x.c 4 ++ putB x.i 1 ++ putB x.a 8 ++ putB (ab1 x.ab) 1 ++ putB (x.nm.size : Int) 1 ++ sb x.nm ++ putB (x.ls.length : Int) 1) ++ linesL x.ls := by
      rw [hE]; simp only [List.append_assoc]
    rw [h29]
    exact (lines_read x.ls _ _ (by simp [putB_length, sb_length]; omega) ol m5).1
  have kl : (encL x).length = 29 + x.nm.size + 14 * x.ls.length := by
    rw [hE]; simp [putB_length, sb_length, hlen]; omega
  have t1 : ((x.nm.size : Nat) : Int).toNat = x.nm.size := Int.toNat_natCast _
  have t2 : ((x.ls.length : Nat) : Int).toNat = x.ls.length := Int.toNat_natCast _
  refine ⟨?_, ?_, ?_⟩
  · unfold shapeB
    rw [k11, t1, k12, t2, kl]
    omega
  · unfold readP
    rw [k0, k1, k2, k3, k4, k5, k6, k7, k8, k9, k10, k11, t1, k12, t2, k13, k14, str_sb]
    refine cm_ext ⟨rfl, rfl, rfl, rfl, rfl, rfl, rfl, rfl, rfl, rfl, ?_, rfl, rfl⟩
    cases x.ab <;> rfl
  · unfold readR
    rw [k0, k1, k2, k3, k4, k5, k6, k7, k8, k9, k10, k11, t1, k12, t2, k13, k14, str_sb]
    refine cm_ext ⟨rfl, rfl, rfl, rfl, rfl, rfl, rfl, rfl, rfl, rfl, ?_, rfl, rfl⟩
    cases x.ab <;> rfl

theorem rdLines_ok (b : List Int) (hb : AllBytes b) (a m : Nat) : ∀ l ∈ rdLines b a m, LnOk l := fun l hl => by
  obtain ⟨j, _, rfl⟩ := List.mem_map.1 hl
  exact ⟨rdN_int b hb _ _, rdN_int b hb _ _, rdN_int b hb _ _, rdN_int b hb _ _⟩
theorem readP_ok (b : List Int) (hb : AllBytes b) : CmOk (readP b) :=
  ⟨rdN_int b hb _ _, rdN_int b hb _ _, rdN_int b hb _ _, rdN_int b hb _ _, rdN_int b hb _ _, rdN_int b hb _ _, rdN_int b hb _ _, rdN_int b hb _ _, rdN_int b hb _ _, rdN_int b hb _ _, rdLines_ok b hb _ _⟩
theorem readR_ok (b : List Int) (hb : AllBytes b) : CmOk (readR b) :=
  ⟨rdN_int b hb _ _, rdN_int b hb _ _, rdN_int b hb _ _, rdN_int b hb _ _, rdN_int b hb _ _, rdN_int b hb _ _, rdN_int b hb _ _, rdN_int b hb _ _, rdN_int b hb _ _, rdN_int b hb _ _, rdLines_ok b hb _ _⟩

theorem dec_same (b : List Int) (hb : AllBytes b) : decP b = decR b := by
  unfold decP decR
  by_cases h : mayC (readP b) = true ∧ encL (readP b) = b
  · obtain ⟨h1, h2, h3⟩ := enc_read _ (readP_ok b hb) h.1
    rw [h.2] at h1 h2 h3
    rw [if_pos h, h3, if_pos ⟨h1, h.1, h.2⟩]
  · rw [if_neg h]
    by_cases g : shapeB b ∧ mayC (readR b) = true ∧ encL (readR b) = b
    · obtain ⟨h1, h2, h3⟩ := enc_read _ (readR_ok b hb) g.2.1
      rw [g.2.2] at h1 h2 h3
      rw [h2] at h
      exact absurd g.2 h
    · rw [if_neg g]
theorem dec_enc (x : Cm) (hx : CmOk x) (hm : mayC x = true) : decP (encL x) = (x, 0) := by
  obtain ⟨_, h2, _⟩ := enc_read x hx hm
  unfold decP
  rw [h2, if_pos ⟨hm, rfl⟩]
theorem decP_ok (b : List Int) (hb : AllBytes b) : CmOk (decP b).1 := by
  unfold decP
  split
  · exact readP_ok b hb
  · exact cm0_ok
theorem dec_back (b : List Int) (h : (decP b).2 = 0) : mayC (decP b).1 = true ∧ encL (decP b).1 = b := by
  unfold decP at h ⊢
  split
  · rename_i g
    exact g
  · rename_i g
    rw [if_neg g] at h
    exact absurd h (by decide)

end Go.Proofs.Ytombdkebjbhacaa
