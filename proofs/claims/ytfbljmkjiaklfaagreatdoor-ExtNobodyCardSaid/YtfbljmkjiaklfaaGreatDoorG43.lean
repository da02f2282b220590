/-
  The texts ExuG, ExuH joined. Conditions: those that each part says at its head.
-/
import Derived.Test.YtfbljmkjiaklfaaGreatDoorG42

/-
  A key is taken out of its bucket: contract of the change's remove, where the bucket stays. Conditions: numbers and lengths are ints; fewer than 4,000,000 steps.
-/
namespace Go.Proofs.YtfbljmkjiaklfaaGreatDoor
open Go.RowKit
set_option maxRecDepth 100000
set_option linter.unusedVariables false

section
variable {D : World → (Nat → Prop) → Addr → DS → Prop} {w0 w w' : World} {F O : Nat → Prop} {p : Addr} {S : DS} {q r b st ch mb : Nat} {seq : Int} {L : List (Int × List Int)} {M M' : MV} {v v' sv : Value} {ns : Nat} {SL : Int → Option Int} {fs : List Value} {ss : List Stp}

/-- Where a key stands in a chain. -/
structure FoundIs (ls : List Leaf) (key : List Int) (m i : Nat) (l : Leaf) : Prop where
  leaf : ls[m]? = some l
  at_ : findI l.ps key = (i : Int)
  lt : i < l.ps.length
  no : ∀ (m' : Nat) (l' : Leaf), m' < m → ls[m']? = some l' → findI l'.ps key < 0
theorem FoundIs.same {ls : List Leaf} {key : List Int} {m i : Nat} {l : Leaf} (h : FoundIs ls key m i l) {a z : Int} (hr : FindR ls key a z) : a = (m : Int) ∧ z = (i : Int) := by
  rcases hr with ⟨_, _, hno⟩ | ⟨m2, l2, rfl, e2, rfl, h0, hno⟩
  · have := hno m l h.leaf
    have := h.at_
    omega
  · have e : m2 = m := by
      rcases Nat.lt_trichotomy m2 m with q | q | q
      · have := h.no m2 l2 q e2; omega
      · exact q
      · have := hno m l q h.leaf
        have := h.at_
        omega
    subst e
    have := h.leaf
    rw [e2] at this
    obtain rfl := Option.some.inj this
    exact ⟨rfl, h.at_⟩

set_option maxHeartbeats 3200000 in
theorem remove_in (api : DiskApi D) (hS : SAt D w0 F O p S q seq r b st L) (h : Gath w0 w ch st mb M M' v v' sv ns SL fs ss) {ka : Option Addr} {kn kc : Nat} {key : List Int} (hk : BIn w (GX ch mb v' sv) ka kn key) (hkc : kn ≤ kc ∧ kn ≤ maxLen)
    {pg : Int} {ls : List Leaf} (hc : ChainIs S L M' key pg ls) (hcnt : -9223372036854775808 < M'.c ∧ M'.c ≤ 9223372036854775807)
    {m i : Nat} {l : Leaf} (hfd : FoundIs ls key m i l) (hcase : m = 0 ∨ (l.ps.eraseIdx i).length ≠ 0) (hln : l.ps.length ≤ 4294967295)
    (hlpg : -9223372036854775808 ≤ l.pg ∧ l.pg ≤ 9223372036854775807) (hd : -9223372036854775808 ≤ l.d ∧ l.d ≤ 9223372036854775807) (hx : -9223372036854775808 ≤ l.x ∧ l.x ≤ 9223372036854775807) (hmay : mayBk ⟨l.d, l.x, l.ps.eraseIdx i⟩ = true) (hmm : fs.length + 1 ≤ 4000000) :
    Calls Tryz.prog 55 #[.pointer (some ⟨ch, 0, none⟩), .slice ka kn kc] w fun e w' => e = .returned (.tuple #[.bool true, .int .i64 0]) ∧ ∃ sv2 f, Gath w0 w' ch st mb M { M' with c := M'.c - 1 } v v' sv2 ns SL (fs ++ [f]) (ss ++ [.lay l.pg (pageBk ⟨l.d, l.x, l.ps.eraseIdx i⟩)]) := by
  obtain ⟨A', c', hv'e, hc', hri⟩ := h.ri
  have hfew := h.few
  have hb1 : Below w.heap.size w w.drew := (Below.refl _ _).drew
  have hg1 := h.keep hb1
  obtain ⟨_, _, _, _, _, y6, y7, y8, y9, y10, _⟩ := hg1.at_.cells2
  have y0 := hg1.at_.cells.1
  rw [hv'e] at y10
  have hk1 := hk.below hb1
  have HZ2 := Lib.hid (show ∀ W, Below w.drew.heap.size w.drew W → W.cell? ⟨ch, 0, none⟩ = some (.pointer (some ⟨st, 0, none⟩)) ∧ W.cell? ⟨ch, 6, none⟩ = some (.int .i64 M'.d) ∧ W.cell? ⟨ch, 7, none⟩ = some (.int .i64 M'.f) ∧ W.cell? ⟨ch, 8, none⟩ = some (.int .i64 M'.n) ∧ W.cell? ⟨ch, 9, none⟩ = some (.int .i64 M'.c) ∧ W.cell? ⟨ch, 10, none⟩ = some (.slice A' M'.l.length c') from fun W hb2 => ⟨(hb2.cell (p := ⟨ch, 0, none⟩) (World.block_lt_of_cell? _ _ y0)).trans y0, (hb2.cell (p := ⟨ch, 6, none⟩) (World.block_lt_of_cell? _ _ y6)).trans y6, (hb2.cell (p := ⟨ch, 7, none⟩) (World.block_lt_of_cell? _ _ y7)).trans y7, (hb2.cell (p := ⟨ch, 8, none⟩) (World.block_lt_of_cell? _ _ y8)).trans y8, (hb2.cell (p := ⟨ch, 9, none⟩) (World.block_lt_of_cell? _ _ y9)).trans y9, (hb2.cell (p := ⟨ch, 10, none⟩) (World.block_lt_of_cell? _ _ y10)).trans y10⟩)
  have HCH := Lib.hid (chainOf_any api ((hS.below api h.bel).below api hb1) M'.d M'.f M'.n M'.c (A0 := A') (cap := c') (Kc := kc) pg (hri.below hb1) hb1.size hc' (by unfold maxLen; omega) hk1.1 (Nat.le_refl _) hkc.2 hc.dir hc.ok hc.few hc.all)
  have HG := Lib.hid h
  have HB1 := Lib.hid hb1
  have HK := Lib.hid hk
  have HLT := Lib.hid h.lt
  have HFD := Lib.hid hfd
  have hlen : ls.length ≤ 4294967296 := by have := hc.few; have := hc.all; omega
  have hmls : m < ls.length := (List.getElem?_eq_some_iff.1 hfd.leaf).1
  have wrc : IntKind.i64.wrap (M'.c - 1) = M'.c - 1 := by rw [IntKind.wrap_i64]; first | (unfold wrap64; omega) | omega
  have hi0 : i < l.ps.length := hfd.lt
  clear h hk hg1 hk1 hc hri hS hfd
  go_enter Tryz.func55, Tryz.ntmps55
  go_wp2_with fail
  go_region_held3 (fun W => W.cell? ⟨ch, 0, none⟩ = some (.pointer (some ⟨st, 0, none⟩)) ∧ W.cell? ⟨ch, 6, none⟩ = some (.int .i64 M'.d) ∧ W.cell? ⟨ch, 7, none⟩ = some (.int .i64 M'.f) ∧ W.cell? ⟨ch, 8, none⟩ = some (.int .i64 M'.n) ∧ W.cell? ⟨ch, 9, none⟩ = some (.int .i64 M'.c) ∧ W.cell? ⟨ch, 10, none⟩ = some (.slice A' M'.l.length c'))
    (first | with_reducible exact z2 | exact ⟨y0, y6, y7, y8, y9, y10⟩)
    (first
      | (go_at_call 52; refine HCH.out.mono ?_; rintro e w2 ⟨A2, c2, rfl, hch2, hb2⟩; have z2 := HZ2.out w2 hb2))
  have hk2 := ((HK.out.below HB1.out).below hb2)
  have HFI := Lib.hid (extFind_any (Kc := kc) hch2 hk2.1 (Nat.le_refl _) hlen)
  have HCH2 := Lib.hid hch2
  have HB2 := Lib.hid hb2
  clear HCH hch2 hb2 hk2 y0 y6 y7 y8 y9 y10 HZ2 z2
  go_wp2_with fail
  refine HFI.out.mono ?_
  rintro e w3 ⟨a, z, rfl, hfr, hb3⟩
  obtain ⟨rfl, rfl⟩ := HFD.out.same hfr
  have hb13 := HB2.out.trans (hb3.mono HB2.out.size)
  have hb03 := HB1.out.trans (hb13.mono HB1.out.size)
  have hg3 := HG.out.keep hb03
  obtain ⟨_, _, _, _, _, _, _, _, x9, _, _⟩ := hg3.at_.cells2
  have hat3 := hg3.at_
  unfold ChAt at hat3
  have f9 : w3.frozen? ⟨ch, 9, none⟩ = false := by simp [World.frozen?, hat3]
  have hchl : ch < w.heap.size := (HLT.out ch (.inl rfl)).2
  have hcl : ch < w.drew.heap.size := Nat.lt_of_lt_of_le hchl HB1.out.size
  obtain ⟨w4, hw4⟩ : ∃ w4, w4 = w3.setCell ⟨ch, 9, none⟩ (.int .i64 (M'.c - 1)) := ⟨_, rfl⟩
  have hg4 : Gath w0 w4 ch st mb M { M' with c := M'.c - 1 } v v' sv ns SL fs ss := by rw [hw4]; exact hg3.setCount _
  have hch4 : ChainAt w.drew w4 (.slice A2 ls.length c2) ls := by rw [hw4]; exact (HCH2.out.below hb3).poke hcl _
  obtain ⟨g, A5, n5, c5, rfl, hgl, hwg, s0, s1, s2, s3, hn5, hm5, hst5, _⟩ := hch4.leaf HFD.out.leaf (Below.refl _ _)
  obtain ⟨lpg, ld, lx, ps⟩ := l
  simp only at s0 s1 s2 hst5 hi0 hln hlpg hd hx hmay hcase
  have hn5e : ps.length = n5 := hst5.now.1
  have hGin : ∀ k, (k < w.drew.heap.size ∨ k = g) → k < w4.heap.size := fun k hk => by
    rcases hk with e | e
    · exact Nat.lt_of_lt_of_le e (Nat.le_trans hb13.size (by rw [hw4]; simp [World.setCell]))
    · rw [e]; exact hgl
  have HWO := Lib.hid (without_any (l := ⟨lpg, ld, lx, ps⟩) (i := i) hn5 hst5 hGin (by omega) (by omega))
  have HG4 := Lib.hid hg4
  have hm' : (m : Int) < (ls.length : Int) := by omega
  have s0' := s0
  have s1' := s1
  have s2' := s2
  have s3' := s3
  rw [hw4] at s0' s1' s2' s3'
  have hb04 : w.heap.size ≤ w4.heap.size := by rw [hw4]; simpa [World.setCell] using hb03.size
  clear hfr hb3 hb13 hb03 hg3 hat3 HFI hg4 hch4 hst5 hGin HB2 HCH2 hcl
  go_wp2_with fail
  rw [← hw4]
  clear hw4 s0' s1' s2' s3' x9 f9
  refine HWO.out.mono ?_
  rintro e w5 ⟨lv, rfl, ⟨A6, n6, c6, rfl, hc6, hn6, hst6⟩, hb5⟩
  simp only at hst6
  have hn6e : (ps.eraseIdx i).length = n6 := hst6.now.1
  obtain ⟨w6, hw6⟩ : ∃ w6, w6 = w5.alloc (.cells #[.int .i64 lpg, .int .i64 ld, .int .i64 lx, .slice A6 n6 c6] 85) := ⟨_, rfl⟩
  have hba : Below w5.heap.size w5 w6 := by rw [hw6]; exact (Below.refl _ _).alloc (Nat.le_refl _) _
  have hbx : w6.heap[w5.heap.size]? = some (.cells #[.int .i64 lpg, .int .i64 ld, .int .i64 lx, .slice A6 n6 c6] 85 (0, 0)) := by rw [hw6]; exact heap_alloc_new _ _
  obtain ⟨t0, t1, t2, t3, _, _⟩ := cells_four hbx
  have hb46 : Below w4.heap.size w4 w6 := hb5.trans (hba.mono hb5.size)
  have HKP := Lib.hid (keep_g (HG4.out.keep hb46) (l := ⟨lpg, ld, lx, ps.eraseIdx i⟩) ⟨A6, n6, c6, rfl, hc6, hn6, hst6.below hba⟩ hlpg hd hx hmay hmm)
  have t3' := t3
  rw [hw6] at t3'
  clear hba hbx hb46 hst6 hb5 HG4 HWO s0 s1 s2 s3
  by_cases hm0 : m = 0
  · subst hm0
    clear hcase
    go_wp2_with fail
    rw [← hw6]
    clear hw6 t3'
    go_wp2_with fail
    refine HKP.out.mono ?_
    rintro e w7 ⟨rfl, sv2, f, hg7, _⟩
    have HE := Lib.hid hg7
    clear hg7 HKP
    go_wp2_with fail
    go_ret2
    exact ⟨rfl, sv2, f, by have q := HE.out; rw [hv'e] at q; exact q⟩
  · have hmp : (m : Int) > 0 := by omega
    have hne : ((n6 : Int) == 0) = false := by
      have := hcase.resolve_left hm0
      rw [hn6e] at this
      simp
      exact this
    clear hcase
    go_wp2_with fail
    rw [← hw6]
    clear hw6 t3'
    go_wp2_with fail
    refine HKP.out.mono ?_
    rintro e w7 ⟨rfl, sv2, f, hg7, _⟩
    have HE := Lib.hid hg7
    clear hg7 HKP
    go_wp2_with fail
    go_ret2
    exact ⟨rfl, sv2, f, by have q := HE.out; rw [hv'e] at q; exact q⟩
end
end Go.Proofs.YtfbljmkjiaklfaaGreatDoor

/-
  Contract of the store's Put, of a key that is not there and has room. Conditions: numbers and lengths are ints; each step succeeds.
-/
namespace Go.Proofs.YtfbljmkjiaklfaaGreatDoor
open Go.RowKit
set_option maxRecDepth 100000
set_option linter.unusedVariables false

section
variable {D : World → (Nat → Prop) → Addr → DS → Prop} {w w' : World} {F O : Nat → Prop} {p : Addr} {S : DS} {q r b st : Nat} {seq : Int} {L : List (Int × List Int)}

/-- A store in memory, whose pages all have their length. -/
structure Top (D : World → (Nat → Prop) → Addr → DS → Prop) (w : World) (F O : Nat → Prop) (p : Addr) (S : DS) (q : Nat) (seq : Int) (r b st : Nat) (L : List (Int × List Int)) : Prop where
  at_ : SAt D w F O p S q seq r b st L
  len : LenS S
  out : ¬ O 1
theorem Top.below (api : DiskApi D) (h : Top D w F O p S q seq r b st L) (hb : Below w.heap.size w w') : Top D w' F O p S q seq r b st L := ⟨h.at_.below api hb, h.len, h.out⟩
/-- What a call leaves of it. -/
def TopAft (D : World → (Nat → Prop) → Addr → DS → Prop) (w : World) (F O : Nat → Prop) (p : Addr) (S : DS) (q : Nat) (seq : Int) (r b st : Nat) (L' : List (Int × List Int)) (w' : World) : Prop :=
  ∃ O', Top D w' F O' p S q seq r b st L' ∧ Touch O w w' ∧ ∀ k, O' k → O k ∨ w.heap.size ≤ k
theorem Top.did (h : Top D w F O p S q seq r b st L) {L' : List (Int × List Int)} (hd : Did D w F O p S q seq r b L' w') : TopAft D w F O p S q seq r b st L' w' := by
  obtain ⟨O', h1, h2, h3⟩ := hd
  refine ⟨O', ⟨⟨h1, Did.tab h.out h.at_.tab h2, h.len.get h1.all, (h2.block st h.at_.lt h.at_.out).trans h.at_.sto, fun e => ?_⟩, h.len, fun e => ?_⟩, h2, h3⟩
  · rcases h3 st e with a | a
    · exact h.at_.out a
    · have := h.at_.lt
      omega
  · rcases h3 _ e with a | a
    · exact h.out a
    · have := h.at_.tab.lt
      omega

/-- Which Metas may be laid. -/
def IntsM (M : MV) : Prop := (-9223372036854775808 ≤ M.d ∧ M.d ≤ 9223372036854775807) ∧ (-9223372036854775808 ≤ M.f ∧ M.f ≤ 9223372036854775807) ∧ (-9223372036854775808 ≤ M.n ∧ M.n ≤ 9223372036854775807) ∧ (-9223372036854775808 ≤ M.c ∧ M.c ≤ 9223372036854775807)

set_option maxHeartbeats 3200000 in
theorem store_put (api : DiskApi D) (h : Top D w F O p S q seq r b st L) {M : MV} (hM : HeadIs S L M) {ka va : Option Addr} {kn kc vn vc B B' : Nat} {x : KV} (hk : RB w B ka kn x.1) (hB : B ≤ w.heap.size) (hv : RB w B' va vn x.2) (hB' : B' ≤ w.heap.size) (hkc : kn ≤ kc ∧ kn ≤ maxLen) (hvc : vn ≤ vc ∧ vn ≤ maxLen) (hk1 : 1 ≤ kn ∧ kn ≤ 32) (hv1 : vn ≤ 120)
    {pg : Int} {ls : List Leaf} (hc : ChainIs S L M x.1 pg ls) (hno : ∀ (m : Nat) (l : Leaf), ls[m]? = some l → findI l.ps x.1 < 0) (hcnt : -9223372036854775808 ≤ M.c ∧ M.c < 9223372036854775807)
    {m : Nat} {l : Leaf} (hml : ls[m]? = some l) (hfit : 8 + szP (l.ps ++ [x]) ≤ 240) (hnot : ∀ (j : Nat) (y : Leaf), j < m → ls[j]? = some y → ¬ 8 + szP (y.ps ++ [x]) ≤ 240) (hsz : ∀ (j : Nat) (y : Leaf), ls[j]? = some y → szP (y.ps ++ [x]) ≤ 4611686018427387904 ∧ y.ps.length ≤ 4294967295)
    (hlpg : -9223372036854775808 ≤ l.pg ∧ l.pg ≤ 9223372036854775807) (hd : -9223372036854775808 ≤ l.d ∧ l.d ≤ 9223372036854775807) (hx : -9223372036854775808 ≤ l.x ∧ l.x ≤ 9223372036854775807) (hmay : mayBk ⟨l.d, l.x, l.ps ++ [x]⟩ = true)
    (hN : IntsM { M with c := M.c + 1 }) (hmayM : mayB { M with c := M.c + 1 } = true) (hok : okS S { M with c := M.c + 1 } L (finS M { M with c := M.c + 1 } [.lay l.pg (pageBk ⟨l.d, l.x, l.ps ++ [x]⟩)])) :
    Calls Tryz.prog 19 #[.pointer (some ⟨st, 0, none⟩), .slice ka kn kc, .slice va vn vc] w fun e w' => e = .returned (.int .i64 0) ∧ TopAft D w F O p S q seq r b st (runS S { M with c := M.c + 1 } L (finS M { M with c := M.c + 1 } [.lay l.pg (pageBk ⟨l.d, l.x, l.ps ++ [x]⟩)])) w' := by
  have HMD := Lib.hid (extMade_yes h.at_.sto)
  have HHD := Lib.hid (head_any api h.at_ hM)
  have HT := Lib.hid h
  have HK := Lib.hid (hk.more hB)
  have HV := Lib.hid (hv.more hB')
  have HPUT := Lib.hid (show ∀ (w2 w3 : World) (ch mb : Nat) (v v' sv : Value), Below w.heap.size w w2 → Gath w2 w3 ch st mb M M v v' sv 0 (fun _ => none) [] [] → Calls Tryz.prog 58 #[.pointer (some ⟨ch, 0, none⟩), .agg #[.slice ka kn kc, .slice va vn vc]] w3 fun e w' => e = .returned (.int .i64 0) ∧ ∃ sv2 f, Gath w2 w' ch st mb M { M with c := M.c + 1 } v v' sv2 0 (fun _ => none) [f] [.lay l.pg (pageBk ⟨l.d, l.x, l.ps ++ [x]⟩)] from
    fun w2 w3 ch mb v v' sv hb hg => put_new api (h.at_.below api hb) hg (BIn.of_below (hk.more hB) (hb.trans (hg.bel.mono hb.size)) (fun k hk => Nat.le_trans hb.size (hg.lt k hk).1)) (BIn.of_below (hv.more hB') (hb.trans (hg.bel.mono hb.size)) (fun k hk => Nat.le_trans hb.size (hg.lt k hk).1)) hkc hvc hc hno hcnt hml hfit hnot hsz hlpg hd hx hmay (by decide))
  have HFIN := Lib.hid (show ∀ (w2 w3 : World) (ch mb : Nat) (v v' sv : Value) (f : Value), Below w.heap.size w w2 → Gath w2 w3 ch st mb M { M with c := M.c + 1 } v v' sv 0 (fun _ => none) [f] [.lay l.pg (pageBk ⟨l.d, l.x, l.ps ++ [x]⟩)] → Calls Tryz.prog 56 #[.pointer (some ⟨ch, 0, none⟩)] w3 fun e w' => e = .returned (.int .i64 0) ∧ TopAft D w F O p S q seq r b st (runS S { M with c := M.c + 1 } L (finS M { M with c := M.c + 1 } [.lay l.pg (pageBk ⟨l.d, l.x, l.ps ++ [x]⟩)])) w' from
    fun w2 w3 ch mb v v' sv f hb hg => (finish_g api (h.at_.below api hb) hg h.len (fun k hk => Nat.lt_of_lt_of_le (h.at_.pg.lt k hk) hb.size) h.out hN hmayM (by simp) hok).mono fun e w' z => ⟨z.1, h.did (z.2.base hb)⟩)
  clear h hM hk hv hc hno hml hfit hnot hsz hlpg hd hx hmay hN hmayM hok hcnt
  have k1 : decide ((kn : Int) < 1) = false := by simp; omega
  have k2 : decide ((kn : Int) > 32) = false := by simp; omega
  have k3 : decide ((vn : Int) > 120) = false := by simp; omega
  go_enter Tryz.func19, Tryz.ntmps19
  go_wp2_with fail
  refine HMD.out.mono ?_
  rintro e w1 ⟨rfl, rfl⟩
  go_wp2_with fail
  refine HHD.out.mono ?_
  rintro e w1 ⟨A, k, c, rfl, hkc1, hk1000, hri, _, hb1⟩
  obtain ⟨w2, hw2⟩ : ∃ w2, w2 = w1.alloc (.cells #[.int .i64 M.d, .int .i64 M.f, .int .i64 M.n, .int .i64 M.c, .slice A k c] 41) := ⟨_, rfl⟩
  have hba : Below w1.heap.size w1 w2 := by rw [hw2]; exact (Below.refl _ _).alloc (Nat.le_refl _) _
  have hb2 : Below w.heap.size w w2 := hb1.trans (hba.mono hb1.size)
  have HCO := Lib.hid (changeOf_any (w := w2) (st := st) (c := c) M ((hri.below hba).more hba.size) hkc1 hk1000)
  have HB2 := Lib.hid hb2
  clear hri hb1 hba hb2 HHD
  go_wp2_with fail
  rw [← hw2]
  clear hw2
  refine HCO.out.mono ?_
  rintro e w3 ⟨v', rfl, hg3⟩
  have HP := Lib.hid (HPUT.out w2 w3 _ _ _ _ _ HB2.out hg3)
  generalize w2.heap.size + 2 = ch at HP ⊢
  clear hg3 HCO
  go_wp2_with fail
  refine HP.out.mono ?_
  rintro e w4 ⟨rfl, sv2, f, hg4⟩
  have HF := Lib.hid (HFIN.out w2 w4 _ _ _ _ _ f HB2.out hg4)
  clear hg4 HP
  go_wp2_with fail
  refine HF.out.mono ?_
  rintro e w5 ⟨rfl, ht⟩
  have HE := Lib.hid ht
  clear ht HF
  go_wp2_with fail
  go_ret
  exact ⟨rfl, HE.out⟩
end
end Go.Proofs.YtfbljmkjiaklfaaGreatDoor
