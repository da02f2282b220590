/-
  Words for a block that bytes are copied into. Plain facts; no condition beyond what each says.
-/
import Derived.Test.YtombdkebjbhacaaDiskP
import Derived.Laws.CopyOwn
import Derived.Deep.RegionLaw
namespace Go.Proofs.Ytombdkebjbhacaa
open Go.RowKit
set_option maxRecDepth 100000
set_option linter.unusedVariables false

/-- Block g holds the bytes L, and other cells behind them. -/
def NowBlk (w : World) (g : Nat) (L : List Int) : Prop := ∃ tl : List Value, w.heap[g]? = some (.cells ((L.map (Value.int .u8)) ++ tl).toArray 5 (0, 0))
theorem NowBlk.of_own {w : World} {base g n c : Nat} {L : List Int} (h : w.ownsRow base 5 1 (.slice (some ⟨g, 0, none⟩) n c) n (L.map (Value.int .u8))) : NowBlk w g L := by
  rcases h.2 with ⟨e, _⟩ | ⟨g', cap, cur, e, _, hb, _, _, _, htake⟩
  · cases e
  · cases e
    refine ⟨cur.toList.drop (n * 1), ?_⟩
    rw [hb, ← htake, List.take_append_drop]
theorem NowBlk.keep {w w' : World} {g : Nat} {L : List Int} (h : NowBlk w g L) (e : w'.heap[g]? = w.heap[g]?) : NowBlk w' g L := by
  obtain ⟨tl, h⟩ := h
  exact ⟨tl, e.trans h⟩
theorem NowBlk.lt {w : World} {g : Nat} {L : List Int} (h : NowBlk w g L) : g < w.heap.size := by
  obtain ⟨tl, h⟩ := h
  exact (Array.getElem?_eq_some_iff.1 h).1
theorem NowBlk.rb {w : World} {g n : Nat} {L : List Int} (h : NowBlk w g L) (hn : L.length = n) (hb : AllBytes L) : RB w w.heap.size (some ⟨g, 0, none⟩) n L := by
  refine ⟨hn, hb, fun h0 => ⟨g, 0, rfl, h.lt, fun j hj => ?_⟩⟩
  obtain ⟨tl, h⟩ := h
  rw [Nat.zero_add, cell_of_row w g j _ _ (0, 0) h, List.getElem?_toArray, List.getElem?_append_left (by simp; omega), List.getElem?_map, List.getElem?_eq_getElem (by omega)]
  rfl
theorem splice_map {L d : List Int} {tl : List Value} {o : Nat} (h : o + d.length ≤ L.length) : splice ((L.map (Value.int .u8)) ++ tl) o (d.map (Value.int .u8)) = ((splice L o d).map (Value.int .u8)) ++ tl := by
  unfold splice
  rw [List.take_append_of_le_length (by simp; omega), List.length_map, List.drop_append_of_le_length (by simp; omega)]
  simp [List.map_take, List.map_drop, List.append_assoc]
theorem splice_bytes {L d : List Int} {o : Nat} (h1 : AllBytes L) (h2 : AllBytes d) : AllBytes (splice L o d) := fun x hx => by
  unfold splice at hx
  rcases List.mem_append.1 hx with a | a
  · exact h1 x (List.mem_of_mem_take a)
  · rcases List.mem_append.1 a with a | a
    · exact h2 x a
    · exact h1 x (List.mem_of_mem_drop a)
/-- copy into a row, as one step of a region that draws its order: that block alone is written. -/
theorem step_copy_at {P : Program} {ops : Array Oper} {o : Oper} {a : Act} {w : World} {K : Act → World → Prop} {Q : Exit → Act → World → Prop} {E : Prop} (hgd : o.guard = none) (d s : Operand) (dT sT : TypeId)
    (ho : o.op = .call { callee := .builtin .copy, args := #[d, s], argTypes := #[dT, sT] }) (elem : TypeId) (hu : P.underlying dT = some (.slice elem)) (hsz : (P.info? elem).map (·.size) = some 1)
    (dp : Option Addr) (ad : Addr) (dLen dCap sLen sCap : Nat) (hd : a.eval d = .slice dp dLen dCap) (hs : a.eval s = .slice (some ad) sLen sCap)
    (g off : Nat) (hdp : dp = some ⟨g, off, none⟩) (cur : List Value) (t : TypeId) (hg : w.heap[g]? = some (.cells cur.toArray t (0, 0))) (cs : List Value) (hn : cs.length = Nat.min sLen dLen)
    (hsrc : ∀ j v, cs[j]? = some v → w.cell? (ad.add j) = some v)
    (hfit : off + cs.length ≤ cur.length) (h1 : ∀ v ∈ cs, v.oneCell' = true)
    (h : ∀ w', Hid (w'.heap[g]? = some (.cells (splice cur off cs).toArray t (0, 0))) → Hid (Touch (fun j => j = g) w w') → K (a.put o.dst (goInt cs.length)) w') :
    if Region.wanted o (yielded ops a.tmps) = true then Oper.wp P o a w K Q else E := by
  have hw : Region.wanted o (yielded ops a.tmps) = true := by simp [Region.wanted, hgd]
  rw [if_pos hw]
  subst hdp
  have hrun := run_copy_row (P := P) w dT sT o.type elem g off dLen dCap ad sLen sCap cur.toArray t cs hu hsz hg hn hsrc (by simpa using hfit) h1
  unfold Oper.wp
  simp [execOp, ho, resolve, invoke, builtin, hd, hs, hrun, Result.andThen]
  exact h _ (show _ = _ by simpa [splice] using setRow_heap w g _ _ t _ hg) (Lib.hid ⟨rfl, rfl, rfl, by simp [World.setRow], fun k hk hne => setRow_other w g k _ (fun e => hne e)⟩)

end Go.Proofs.Ytombdkebjbhacaa
