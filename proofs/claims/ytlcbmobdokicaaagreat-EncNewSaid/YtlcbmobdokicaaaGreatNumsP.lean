/-
  The numbers that stand behind a tag in the keys of a view, as plain lists: which they are, and that they rise. No program; no condition beyond what each says.
-/
import Derived.Test.YtlcbmobdokicaaaGreatKeyB
import Derived.Test.YtlcbmobdokicaaaGreatKeyQ
import Derived.Test.YtlcbmobdokicaaaGreatViewP
import Derived.Test.YtlcbmobdokicaaaGreatGRow
namespace Go.Proofs.YtlcbmobdokicaaaGreat
open Go.RowKit
set_option maxRecDepth 100000
set_option linter.unusedVariables false

/-- The number of a key with just one. -/
def oneOf (b : List Int) : Option Int := if b.length = 5 then some (numOf ((b.drop 1).take 4)) else none
theorem oneOf_split (b : List Int) : oneOf b = if (splitK b).2.2 = true ∧ (splitK b).1.length = 1 then some ((splitK b).1[0]?.getD 0) else none := by
  unfold oneOf splitK splitR
  by_cases h : 1 ≤ b.length ∧ b.length ≤ 29 ∧ b.length % 4 = 1
  · rw [if_pos h]
    show _ = if true = true ∧ (unpackN 4 b 1 (b.length / 4)).length = 1 then some ((unpackN 4 b 1 (b.length / 4))[0]?.getD 0) else none
    rw [unpackN_length]
    by_cases h5 : b.length = 5
    · rw [if_pos h5, if_pos ⟨rfl, by omega⟩, show b.length / 4 = 1 by omega]
      rfl
    · rw [if_neg h5, if_neg (fun q => h5 (by omega))]
  · rw [if_neg h, if_neg (fun q => h (by omega)), if_neg (fun q => by cases q.1)]
/-- The numbers behind keys, in their order. -/
def numsK (ps : List KV) : List Int := ps.filterMap fun x => oneOf x.1

theorem four_bytes {a b c d : Int} (ha : 0 ≤ a ∧ a < 256) (hb : 0 ≤ b ∧ b < 256) (hc : 0 ≤ c ∧ c < 256) (hd : 0 ≤ d ∧ d < 256) :
    (0 ≤ numOf [a, b, c, d] ∧ numOf [a, b, c, d] < 4294967296) ∧ putB (numOf [a, b, c, d]) 4 = [a, b, c, d] := by
  have e : numOf [a, b, c, d] = ((a * 256 + b) * 256 + c) * 256 + d := by
    rw [numOf_eq _ (fun x hx => by
      simp only [List.mem_cons, List.not_mem_nil, or_false] at hx
      rcases hx with rfl | rfl | rfl | rfl <;> assumption)]
    show wrap64 ((((0 * 256 + a) * 256 + b) * 256 + c) * 256 + d) = _
    unfold wrap64
    omega
  rw [e]
  refine ⟨by omega, ?_⟩
  show [(((a * 256 + b) * 256 + c) * 256 + d) / 256 / 256 / 256 % 256, (((a * 256 + b) * 256 + c) * 256 + d) / 256 / 256 % 256, (((a * 256 + b) * 256 + c) * 256 + d) / 256 % 256, (((a * 256 + b) * 256 + c) * 256 + d) % 256] = _
  have e1 : (((a * 256 + b) * 256 + c) * 256 + d) / 256 / 256 / 256 % 256 = a := by omega
  have e2 : (((a * 256 + b) * 256 + c) * 256 + d) / 256 / 256 % 256 = b := by omega
  have e3 : (((a * 256 + b) * 256 + c) * 256 + d) / 256 % 256 = c := by omega
  have e4 : (((a * 256 + b) * 256 + c) * 256 + d) % 256 = d := by omega
  rw [e1, e2, e3, e4]
theorem keyOne (t x : Int) (hx : 0 ≤ x ∧ x < 4294967296) : keyL t [x] = t :: putB x 4 := by
  unfold keyL tagL
  rw [List.take_of_length_le (by simp), map_held4 (fun y hy => by obtain rfl := List.mem_singleton.1 hy; exact hx), packN_one]
theorem key_of {t x : Int} {b : List Int} (hb : AllBytes b) (h0 : b[0]? = some t) (h : oneOf b = some x) : (0 ≤ x ∧ x < 4294967296) ∧ b = keyL t [x] := by
  unfold oneOf at h
  split at h
  · rename_i hl
    match b, hl with
    | [t', a, b, c, d], _ =>
      obtain rfl : t' = t := by simpa using h0
      obtain rfl : numOf [a, b, c, d] = x := by simpa using h
      have := four_bytes (hb a (by simp)) (hb b (by simp)) (hb c (by simp)) (hb d (by simp))
      exact ⟨this.1, by rw [keyOne _ _ this.1, this.2]⟩
  · cases h
theorem oneOf_key (t x : Int) (hx : 0 ≤ x ∧ x < 4294967296) : oneOf (keyL t [x]) = some x := by
  rw [keyOne t x hx]
  unfold oneOf
  rw [if_pos (by rw [List.length_cons, putB_length])]
  show some (numOf ((putB x 4).take 4)) = _
  rw [List.take_of_length_le (by rw [putB_length]; omega), num4 hx]
theorem key_bytes {t x : Int} (ht : 0 ≤ t ∧ t < 256) : AllBytes (keyL t [x]) := tagL_bytes ht _

theorem tag_prefix {t : Int} (ht : 0 ≤ t ∧ t < 256) (y : Txt) : (tx [t]).isPrefixOf y = true ↔ (by_ y)[0]? = some t := by
  obtain ⟨n, rfl⟩ := Int.eq_ofNat_of_zero_le ht.1
  have hn : (UInt8.ofNat n).toNat = n := by rw [UInt8.toNat_ofNat']; omega
  cases y with
  | nil => exact ⟨fun h => (by cases h), fun h => (by cases h)⟩
  | cons u r =>
    show ((UInt8.ofNat n == u) && ([] : Txt).isPrefixOf r) = true ↔ some ((u.toNat : Int)) = some (n : Int)
    have : ([] : Txt).isPrefixOf r = true := rfl
    rw [this, Bool.and_true]
    constructor
    · intro h
      have : UInt8.ofNat n = u := by simpa using h
      rw [← this, hn]
    · intro h
      have h : (u.toNat : Int) = (n : Int) := Option.some.inj h
      have : UInt8.ofNat n = u := UInt8.toNat.inj (by rw [hn]; omega)
      simpa using this
theorem scan_mem {S : VS} (h : S.Ok) {y : Txt} {p : Txt × List Int} : p ∈ S.scan y ↔ S.now p.1 = some p.2 ∧ y.isPrefixOf p.1 = true := by
  unfold VS.scan
  rw [List.mem_filter, ← h.look]
  exact ⟨fun q => ⟨h.nowL.look q.1, q.2⟩, fun q => ⟨lookT_mem q.1, q.2⟩⟩
theorem nums_mem {S : VS} (h : S.Ok) {t : Int} (ht : 0 ≤ t ∧ t < 256) {x : Int} : x ∈ numsK ((S.scan (tx [t])).map kvOf) ↔ (0 ≤ x ∧ x < 4294967296) ∧ (S.now (tx (keyL t [x]))).isSome = true := by
  unfold numsK
  rw [List.mem_filterMap]
  constructor
  · rintro ⟨q, hq, hx⟩
    obtain ⟨p, hp, rfl⟩ := List.mem_map.1 hq
    obtain ⟨h1, h2⟩ := (scan_mem h).1 hp
    obtain ⟨h3, h4⟩ := key_of (by_bytes p.1) ((tag_prefix ht p.1).1 h2) hx
    exact ⟨h3, by rw [← h4, tx_by, h1]; rfl⟩
  · rintro ⟨hx, hs⟩
    obtain ⟨v, hv⟩ := Option.isSome_iff_exists.1 hs
    refine ⟨kvOf (tx (keyL t [x]), v), List.mem_map.2 ⟨_, (scan_mem h).2 ⟨hv, (tag_prefix ht _).2 ?_⟩, rfl⟩, ?_⟩
    · show (by_ (tx (keyL t [x])))[0]? = some t
      rw [by_tx (key_bytes ht), keyOne t x hx]
      rfl
    · show oneOf (by_ (tx (keyL t [x]))) = some x
      rw [by_tx (key_bytes ht), oneOf_key t x hx]
theorem key_lt {t x y : Int} (ht : 0 ≤ t ∧ t < 256) (hx : 0 ≤ x ∧ x < 4294967296) (hy : 0 ≤ y ∧ y < 4294967296) (h : tx (keyL t [x]) < tx (keyL t [y])) : x < y := by
  have h1 := (cmpB_lt _ _).2 h
  rw [cmpT_key ht (fun z hz => by obtain rfl := List.mem_singleton.1 hz; exact hx) (fun z hz => by obtain rfl := List.mem_singleton.1 hz; exact hy) (by simp) (by simp)] at h1
  unfold cmpI cmp1 at h1
  by_cases h2 : x < y
  · exact h2
  · exfalso
    revert h1
    rw [if_neg h2]
    by_cases h3 : y < x
    · rw [if_pos h3]; decide
    · rw [if_neg h3]; decide
theorem nums_rise {S : VS} (h : S.Ok) {t : Int} (ht : 0 ≤ t ∧ t < 256) : (numsK ((S.scan (tx [t])).map kvOf)).Pairwise (· < ·) := by
  unfold numsK
  have hr : RiseT (S.scan (tx [t])) := h.nowL.filter _
  rw [List.pairwise_filterMap, List.pairwise_map]
  refine hr.imp_of_mem fun {p q} hp hq hpq x hx y hy => ?_
  have k1 := key_of (by_bytes p.1) ((tag_prefix ht p.1).1 ((scan_mem h).1 hp).2) hx
  have k2 := key_of (by_bytes q.1) ((tag_prefix ht q.1).1 ((scan_mem h).1 hq).2) hy
  refine key_lt ht k1.1 k2.1 ?_
  rw [← k1.2, ← k2.2, tx_by, tx_by]
  exact hpq
/-- Strictly rising lists with the same in them are one. -/
theorem rise_same : ∀ {l m : List Int}, l.Pairwise (· < ·) → m.Pairwise (· < ·) → (∀ x, x ∈ l ↔ x ∈ m) → l = m
  | [], [], _, _, _ => rfl
  | [], y :: m, _, _, h => absurd ((h y).2 List.mem_cons_self) List.not_mem_nil
  | x :: l, [], _, _, h => absurd ((h x).1 List.mem_cons_self) List.not_mem_nil
  | x :: l, y :: m, hl, hm, h => by
    obtain ⟨hx, hl1⟩ := List.pairwise_cons.1 hl
    obtain ⟨hy, hm1⟩ := List.pairwise_cons.1 hm
    have e : x = y := by
      rcases List.mem_cons.1 ((h x).1 List.mem_cons_self) with e | e
      · exact e
      · rcases List.mem_cons.1 ((h y).2 List.mem_cons_self) with e' | e'
        · exact e'.symm
        · have := hy x e; have := hx y e'; omega
    subst e
    have e2 : l = m := rise_same hl1 hm1 fun z => by
      have h1 := h z
      rw [List.mem_cons, List.mem_cons] at h1
      constructor
      · intro hz
        rcases h1.1 (.inr hz) with e | e
        · have := hx z hz; omega
        · exact e
      · intro hz
        rcases h1.2 (.inr hz) with e | e
        · have := hy z hz; omega
        · exact e
    rw [e2]
/-- No more than those that may be. -/
theorem rise_len : ∀ {l : List Int} {a b : Int}, l.Pairwise (· < ·) → (∀ x ∈ l, a ≤ x ∧ x < b) → (l.length : Int) ≤ max (b - a) 0
  | [], a, b, _, _ => by simp; omega
  | x :: l, a, b, hl, h => by
    obtain ⟨hx, hl⟩ := List.pairwise_cons.1 hl
    have h1 := h x List.mem_cons_self
    have := rise_len (a := x + 1) (b := b) hl fun y hy => ⟨by have := hx y hy; omega, (h y (List.mem_cons_of_mem _ hy)).2⟩
    rw [List.length_cons]
    omega
end Go.Proofs.YtlcbmobdokicaaaGreat
