/- ExtN. Conditions: in each theorem. -/
import Derived.Test.YtlmkdmdbpopnhaaGreatDoorG26
import Derived.Test.YtlmkdmdbpopnhaaGreatDoorG27
import Derived.Test.YtlmkdmdbpopnhaaGreatDoorG16
set_option maxRecDepth 100000
set_option linter.unusedVariables false
namespace Go.Proofs.YtlmkdmdbpopnhaaGreatDoor
open Go.RowKit
inductive Stp where
 | lay (pg:Int) (l:List Int)
 | pt (slot pg:Int)
 | fr (pg nx:Int)
def Za3(B:Nat)(w:World)(X:Nat->Prop)(ch:Nat)(f:Value)(s:Stp):Prop:=
 ∃g K a b,f=Zg0 K ⟨g,0,none⟩ ⟨g+1,0,none⟩ ⟨g+2,0,none⟩/\w.cell? ⟨g,0,none⟩=some (.pointer (some ⟨ch,0,none⟩))/\w.cell? ⟨g+1,0,none⟩=some a/\w.cell? ⟨g+2,0,none⟩=some b/\(¬X g/\¬X (g+1)/\¬X (g+2))/\B<=g/\
 match s with
 | .lay pg l=>K=204/\a=.int .i64 pg/\(-9223372036854775808<=pg/\pg<=9223372036854775807)/\∃A n c,b=.slice A n c/\n<=c/\n<=maxLen/\BIn w (fun k=>X k∨k<B) A n l
 | .pt slot pg=>K=155/\a=.int .i64 slot/\b=.int .i64 pg/\(-9223372036854775808<=pg/\pg<=9223372036854775807)
 | .fr pg nx=>K=219/\a=.int .i64 pg/\b=.int .i64 nx/\(-9223372036854775808<=pg/\pg<=9223372036854775807)/\(-9223372036854775808<=nx/\nx<=9223372036854775807)
theorem Za3.keep{B:Nat}{w w':World}{X X':Nat->Prop}{ch:Nat}{f:Value}{s:Stp}(h:Za3 B w X ch f s)(hs:w.heap.size<=w'.heap.size)(hk:∀k,k<w.heap.size->¬X k->w'.heap[k]?=w.heap[k]?)(hX:∀k,k<w.heap.size->¬X k->¬X' k):Za3 B w' X' ch f s:=by
 obtain⟨g,K,a,b,e,c0,c1,c2,⟨x0,x1,x2⟩,hB,h⟩:=h;have l0:=World.block_lt_of_cell? _ _ c0;have l1:=World.block_lt_of_cell? _ _ c1;have l2:=World.block_lt_of_cell? _ _ c2;refine⟨g,K,a,b,e,(World.cell?_of_block (a:=⟨g,0,none⟩) (hk _ l0 x0)).trans c0,(World.cell?_of_block (a:=⟨g+1,0,none⟩) (hk _ l1 x1)).trans c1,(World.cell?_of_block (a:=⟨g+2,0,none⟩) (hk _ l2 x2)).trans c2,⟨hX _ l0 x0,hX _ l1 x1,hX _ l2 x2⟩,hB,?_⟩;cases s with
 | lay pg l=>
  obtain⟨h1,h2,h3,A,n,c,h4,h5,h6,h7⟩:=h
  exact⟨h1,h2,h3,A,n,c,h4,h5,h6,h7.grow hs (fun k hk1 hk2=>hk k hk1 (fun e=>hk2 (.inl e))) (fun k hk1 hk2 hk3=>by
   rcases hk3 with e|e
   · exact hX k hk1 (fun e=>hk2 (.inl e)) e
   · exact hk2 (.inr e))⟩
 | pt slot pg=>exact h
 | fr pg nx=>exact h
def GX(ch mb:Nat)(v' sv:Value)(k:Nat):Prop:=k=ch∨k=mb∨v'.ownBlock=some k∨sv.ownBlock=some k
structure ZF(w0 w:World)(ch st mb:Nat)(M M':MV)(v v' sv:Value)(ns:Nat)(SL:Int->Option Int)(fs:List Value)(ss:List Stp):Prop where
 at_:ZcT w ch st M.d M.f M.n M.c v M'.d M'.f M'.n M'.c v' mb sv
 chn:w0.heap.size<=ch
 mbn:w0.heap.size<=mb
 cm:ch≠mb
 was:∃A k c,v=.slice A k c/\k<=c/\k<=1000/\RI w0 w0.heap.size A k M.l
 will:w.ownsRow w0.heap.size 3 1 v' M'.l.length (M'.l.map (Value.int .i64))
 ints:∀x∈M'.l,-9223372036854775808<=x/\x<=9223372036854775807
 few:M'.l.length<=1000
 row:w.ownsRow w0.heap.size 90 1 sv fs.length fs
 many:fs.length<=4000000
 len:ss.length=fs.length
 each:∀(i:Nat) (f:Value) (s:Stp),fs[i]?=some f->ss[i]?=some s->Za3 w0.heap.size w (GX ch mb v' sv) ch f s
 mp:Zbl w mb ns (fun i=>(SL i).map (Value.int .i64))
 vch:v'.ownBlock≠some ch/\v'.ownBlock≠some mb
 sch:sv.ownBlock≠some ch/\sv.ownBlock≠some mb
 vs:∀k,v'.ownBlock=some k->sv.ownBlock≠some k
 bel:Below w0.heap.size w0 w
section
variable{w0 w w':World}{ch st mb:Nat}{M M':MV}{v v' sv:Value}{ns:Nat}{SL:Int->Option Int}{fs:List Value}{ss:List Stp}
theorem ZF.keep(h:ZF w0 w ch st mb M M' v v' sv ns SL fs ss)(hb:Below w.heap.size w w'):ZF w0 w' ch st mb M M' v v' sv ns SL fs ss:=by
 have hl:=h.at_.cells.2.2.2.2.2.2.2.2;refine⟨h.at_.below hb,h.chn,h.mbn,h.cm,h.was,ZB h.will (fun g hg=>hb.block g (ZaM h.will g hg).2),h.ints,h.few,ZB h.row (fun g hg=>hb.block g (ZaM h.row g hg).2),h.many,h.len,fun i f s hf hs=>(h.each i f s hf hs).keep hb.size (fun k hk _=>hb.block k hk) (fun _ _ h=>h),h.mp.of_block (hb.block mb h.mp.lt),h.vch,h.sch,h.vs,h.bel.trans (hb.mono h.bel.size)⟩
def ZeC(B:Nat)(w:World)(Y:Nat->Prop)(ch:Nat)(fs:List Value)(ss:List Stp):Prop:=∀(i:Nat) (f:Value) (s:Stp),fs[i]?=some f->ss[i]?=some s->Za3 B w Y ch f s
theorem Za3.both{B:Nat}{w:World}{X Y:Nat->Prop}{ch:Nat}{f:Value}{s:Stp}(h:Za3 B w X ch f s)(h2:Za3 B w Y ch f s):Za3 B w (fun k=>X k∨Y k) ch f s:=by
 obtain⟨g,K,a,b,e,c0,c1,c2,⟨x0,x1,x2⟩,hB,h⟩:=h;obtain⟨g',K',a',b',e',c0',c1',c2',⟨y0,y1,y2⟩,hB',h'⟩:=h2
 obtain rfl:g=g':=by
  rw[e]at e';simp[Zg0]at e';exact e'.2
 refine⟨g,K,a,b,e,c0,c1,c2,⟨fun q=>q.elim x0 y0,fun q=>q.elim x1 y1,fun q=>q.elim x2 y2⟩,hB,?_⟩;cases s with
 | lay pg l=>
  obtain⟨h1,h2,h3,A,n,c,h4,h5,h6,h7⟩:=h;obtain⟨_,_,_,A',n',c',h4',_,_,h7'⟩:=h';rw[h4]at c2;rw[h4',c2]at c2';cases c2';refine⟨h1,h2,h3,A,n,c,h4,h5,h6,h7.1,fun ad ha hn hg=>?_⟩;rcases hg with (q|q)|q
  · exact h7.2 ad ha hn (.inl q)
  · exact h7'.2 ad ha hn (.inl q)
  · exact h7.2 ad ha hn (.inr q)
 | pt slot pg=>exact h
 | fr pg nx=>exact h
structure ZZ(B Z ch mb:Nat)(v' sv v1 sv1:Value)(fs fs1:List Value)(ss ss1:List Stp)(w w1:World):Prop where
 touch:Zf (GX ch mb v' sv) w w1
 own:∀k,GX ch mb v1 sv1 k->GX ch mb v' sv k∨w.heap.size<=k
 steps:∀Y:Nat->Prop,(∀k,Y k->k<Z)->ZeC B w Y ch fs ss->ZeC B w1 Y ch fs1 ss1
theorem ZZ.below{B Z ch mb:Nat}{v' sv:Value}{fs:List Value}{ss:List Stp}{w w1:World}(h:Below w.heap.size w w1):ZZ B Z ch mb v' sv v' sv fs fs ss ss w w1:=⟨⟨h.os,h.tape,h.output,h.size,fun k hk _=>h.block k hk⟩,fun _ h=>.inl h,fun Y hY ha i f s hf hs=>(ha i f s hf hs).keep h.size (fun k hk _=>h.block k hk) (fun _ _ h=>h)⟩
theorem ZZ.mono{B Z Z2 ch mb:Nat}{v' sv v1 sv1:Value}{fs fs1:List Value}{ss ss1:List Stp}{w w1:World}(h:ZZ B Z2 ch mb v' sv v1 sv1 fs fs1 ss ss1 w w1)(hz:Z<=Z2):ZZ B Z ch mb v' sv v1 sv1 fs fs1 ss ss1 w w1:=⟨h.touch,h.own,fun Y hY ha=>h.steps Y (fun k hk=>ZZd (hY k hk) hz) ha⟩
theorem ZZ.trans{B Z ch mb:Nat}{v' sv v1 sv1 v2 sv2:Value}{fs fs1 fs2:List Value}{ss ss1 ss2:List Stp}{w w1 w2:World}(h:ZZ B Z ch mb v' sv v1 sv1 fs fs1 ss ss1 w w1)(h2:ZZ B Z ch mb v1 sv1 v2 sv2 fs1 fs2 ss1 ss2 w1 w2):ZZ B Z ch mb v' sv v2 sv2 fs fs2 ss ss2 w w2:=by
 refine⟨⟨h2.touch.os.trans h.touch.os,h2.touch.tape.trans h.touch.tape,h2.touch.output.trans h.touch.output,ZZf h.touch.size h2.touch.size,fun k hk hn=>(h2.touch.block k (ZZd hk h.touch.size) (fun e=>?_)).trans (h.touch.block k hk hn)⟩,fun k hk=>?_,fun Y hY ha=>h2.steps Y hY (h.steps Y hY ha)⟩
 · rcases h.own k e with a|a
   · exact hn a
   · omega
 · rcases h2.own k hk with a|a
   · exact h.own k a
   · exact .inr (ZZf h.touch.size a)
theorem ZZ.go{B ch mb:Nat}{v' sv v1 sv1 v2 sv2:Value}{fs fs1 fs2:List Value}{ss ss1 ss2:List Stp}{w w1 w2:World}(h:ZZ B w.heap.size ch mb v' sv v1 sv1 fs fs1 ss ss1 w w1)(h2:ZZ B w1.heap.size ch mb v1 sv1 v2 sv2 fs1 fs2 ss1 ss2 w1 w2):ZZ B w.heap.size ch mb v' sv v2 sv2 fs fs2 ss ss2 w w2:=h.trans (h2.mono h.touch.size)
theorem ZF.then_(h:ZF w0 w ch st mb M M' v v' sv ns SL fs ss){w1:World}{f:Value}{s:Stp}(hb:Below w.heap.size w w1)(hs:Za3 w0.heap.size w1 (GX ch mb v' sv) ch f s){Z:Nat}(hsY:∀Y:Nat->Prop,(∀k,Y k->k<Z)->Za3 w0.heap.size w1 Y ch f s)(hm:fs.length+1<=4000000)
 (hd:ZhJ w1 w0.heap.size ch st M.d M.f M.n M.c v M'.d M'.f M'.n M'.c v' mb sv (fs++[f]) w'):∃sv',ZF w0 w' ch st mb M M' v v' sv' ns SL (fs++[f]) (ss++[s])/\ZZ w0.heap.size Z ch mb v' sv v' sv' fs (fs++[f]) ss (ss++[s]) w w':=by
 have h1:=h.keep hb;obtain⟨sv',k1,k2,k3,k4⟩:=hd;have hmb:=h1.mp.lt
 have hX:∀k,k<w1.heap.size->¬GX ch mb v' sv k->¬GX ch mb v' sv' k:=fun k hk hn hn'=>by
  rcases hn' with a|a|a|a
  · exact hn (.inl a)
  · exact hn (.inr (.inl a))
  · exact hn (.inr (.inr (.inl a)))
  · rcases k4 with e|⟨g,e,hg⟩
    · exact hn (.inr (.inr (.inr (e ▸ a))))
    · rw[e]at a;injection a with a;omega
 have hst:∀k,k<w1.heap.size->¬GX ch mb v' sv k->w'.heap[k]?=w1.heap[k]?:=fun k hk hn=>k3.block k hk (fun e=>hn (by
  rcases e with e|e
  · exact .inl e
  · exact .inr (.inr (.inr e))))
 refine⟨sv',⟨k1,h.chn,h.mbn,h.cm,h.was,ZB h1.will (fun g hg=>k3.block g (ZaM h1.will g hg).2 (fun e=>by
  rcases e with e|e
  · exact h1.vch.1 (by rw[hg,e])
  · exact h1.vs g hg e)),h.ints,h.few,k2,by simpa using hm,by simp[h.len],fun i f' s' hf hs'=>?_,h1.mp.of_block (k3.block mb hmb (fun e=>by
  rcases e with e|e
  · exact h1.cm e.symm
  · exact h1.sch.2 e)),h.vch,?_,?_,h1.bel.trans ⟨k3.os,k3.tape,k3.output,k3.size,fun k hk=>k3.block k (ZZd hk h1.bel.size) (fun e=>by
  rcases e with e|e
  · have:=h1.chn;omega
  · have:=(ZaM h1.row k e).1;omega)⟩⟩,⟨⟨k3.os.trans hb.os,k3.tape.trans hb.tape,k3.output.trans hb.output,ZZf hb.size k3.size,fun k hk hn=>(k3.block k (ZZd hk hb.size) (fun e=>hn (by
  rcases e with e|e
  · exact .inl e
  · exact .inr (.inr (.inr e))))).trans (hb.block k hk)⟩,fun k hk=>?_,fun Y hY ha i f' s' hf hs'=>?_⟩⟩
 · rcases Nat.lt_or_ge i fs.length with hi|hi
   · rw[List.getElem?_append_left hi]at hf;rw[List.getElem?_append_left (by rw[h.len];exact hi)]at hs';exact(h1.each i f' s' hf hs').keep k3.size hst hX
   · have hil:=(ZZb.1 hf).1;rw[List.length_append,List.length_singleton]at hil;obtain rfl:i=fs.length:=by omega
     rw[List.getElem?_append_right (ZZe _),Nat.sub_self]at hf;rw[List.getElem?_append_right (by rw[h.len];exact ZZe _),h.len,Nat.sub_self]at hs';obtain rfl:f=f':=by simpa using hf
     obtain rfl:s=s':=by simpa using hs'
     exact hs.keep k3.size hst hX
 · rcases k4 with e|⟨g,e,hg⟩
   · rw[e];exact h.sch
   · rw[e];have hcl:=h1.at_.cells.2.2.2.2.2.2.2.2;exact⟨fun a=>by injection a with a;omega,fun a=>by injection a with a;omega⟩
 · intro k hk e';rcases k4 with e|⟨g,e,hg⟩
   · exact h.vs k hk (e ▸ e')
   · rw[e]at e';injection e' with e'
     have:=(ZaM h1.will k hk).2
     omega
 · rcases hk with a|a|a|a
   · exact .inl (.inl a)
   · exact .inl (.inr (.inl a))
   · exact .inl (.inr (.inr (.inl a)))
   · rcases k4 with e|⟨g,e,hg⟩
     · exact .inl (.inr (.inr (.inr (e ▸ a))))
     · rw[e]at a;injection a with a;exact .inr (by have:=hb.size;omega)
 · rcases Nat.lt_or_ge i fs.length with hi|hi
   · rw[List.getElem?_append_left hi]at hf;rw[List.getElem?_append_left (by rw[h.len];exact hi)]at hs';have q1:=(ha i f' s' hf hs').keep hb.size (fun k hk _=>hb.block k hk) (fun _ _ h=>h);exact((h1.each i f' s' hf hs').both q1).keep k3.size (fun k hk hn=>hst k hk (fun e=>hn (.inl e))) (fun k hk hn hy=>hn (.inr hy))
   · have hil:=(ZZb.1 hf).1;rw[List.length_append,List.length_singleton]at hil;obtain rfl:i=fs.length:=by omega
     rw[List.getElem?_append_right (ZZe _),Nat.sub_self]at hf;rw[List.getElem?_append_right (by rw[h.len];exact ZZe _),h.len,Nat.sub_self]at hs';obtain rfl:f=f':=by simpa using hf
     obtain rfl:s=s':=by simpa using hs'
     exact(hs.both (hsY Y hY)).keep k3.size (fun k hk hn=>hst k hk (fun e=>hn (.inl e))) (fun k hk hn hy=>hn (.inr hy))
end
end Go.Proofs.YtlmkdmdbpopnhaaGreatDoor
