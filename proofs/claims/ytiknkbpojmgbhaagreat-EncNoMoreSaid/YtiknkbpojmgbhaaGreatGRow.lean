/- PairM, Gen, Za8. Conditions: in each theorem. -/
import Derived.Test.YtiknkbpojmgbhaaGreatBase
import Derived.Deep.Slices
import Derived.Deep.Fields
import Derived.ChangeSame
import Derived.ProofKit
import Derived.Maps.AppendAt
import Derived.Deep.AppendLies
import Derived.Test.YtiknkbpojmgbhaaGreatViewC
set_option maxRecDepth 100000
set_option linter.unusedVariables false
open Go.Proofs.Tryz
namespace Go.Proofs.YtiknkbpojmgbhaaGreat
open Go.RowKit
abbrev KV:=List Int×List Int
def Zla(w:World)(B b off:Nat)(x:KV):Prop:=
 ∃(ka:Option Addr) (kn kc:Nat) (va:Option Addr) (vn vc:Nat),w.cell? ⟨b,off,none⟩=some (.slice ka kn kc)/\w.cell? ⟨b,off+1,none⟩=some (.slice va vn vc)/\RB w B ka kn x.1/\(kn<=kc/\kn<=maxLen)/\RB w B va vn x.2/\(vn<=vc/\vn<=maxLen)
def Zat(w:World)(B:Nat)(A:Option Addr)(n:Nat)(ps:List KV):Prop:=
 ps.length=n/\(0<n->∃b off,A=some ⟨b,off,none⟩/\b<B/\∀j x,ps[j]?=some x->Zla w B b (off+j*2) x)
section
variable{w w':World}{B B' n:Nat}{A:Option Addr}{ps:List KV}
theorem Zla.keep{b off:Nat}{x:KV}(h:Zla w B b off x)(hb:b<B)(hk:∀b o,b<B->w'.cell? ⟨b,o,none⟩=w.cell? ⟨b,o,none⟩):Zla w' B b off x:=by
 obtain⟨ka,kn,kc,va,vn,vc,h0,h1,h2,h3,h4,h5⟩:=h;exact⟨ka,kn,kc,va,vn,vc,(hk _ _ hb).trans h0,(hk _ _ hb).trans h1,h2.keep hk,h3,h4.keep hk,h5⟩
theorem Zat.nil_:Zat w B A 0 []:=⟨rfl,fun h=>absurd h (by omega)⟩
theorem Zat.len(h:Zat w B A n ps):ps.length=n:=h.1
theorem Zat.keep(h:Zat w B A n ps)(hk:∀b o,b<B->w'.cell? ⟨b,o,none⟩=w.cell? ⟨b,o,none⟩):Zat w' B A n ps:=
 ⟨h.1,fun hn=>by
  obtain⟨b,off,e,hb,hc⟩:=h.2 hn
  exact⟨b,off,e,hb,fun j x hx=>(hc j x hx).keep hb hk⟩⟩
theorem Zat.below(h:Zat w B A n ps)(hb:Below B w w'):Zat w' B A n ps:=h.keep fun b o hp=>hb.cell (p:=⟨b,o,none⟩) hp
end
theorem Zj5{w:World}{base e size m:Nat}{v:Value}{xs:List Value}(h:w.ownsRow base e size v m xs):∀g,v.ownBlock=some g->base<=g/\g<w.heap.size:=by
 intro g hg;rcases h.2 with ⟨rfl,_⟩|⟨g',cap,cur,rfl,hb,hh,_⟩
 · simp[Value.ownBlock]at hg
 · simp[Value.ownBlock]at hg;subst hg;exact⟨hb,(Array.getElem?_eq_some_iff.1 hh).1⟩
theorem ZlW{w w':World}{base e size m:Nat}{v:Value}{xs:List Value}(h:w.ownsRow base e size v m xs)(hk:∀g,v.ownBlock=some g->w'.heap[g]?=w.heap[g]?):w'.ownsRow base e size v m xs:=by
 rcases h.2 with h'|⟨g,cap,cur,rfl,hg,hb,h3⟩
 · exact⟨h.1,.inl h'⟩
 · exact⟨h.1,.inr ⟨g,cap,cur,rfl,hg,(hk g (by simp[Value.ownBlock])).trans hb,h3⟩⟩
def ZlX{β:Type}(R:World->(Nat->Prop)->List Value->β->Prop):Prop:=∀{w w':World} {Y Y':Nat->Prop} {us:List Value} {x:β},R w Y us x->w.heap.size<=w'.heap.size->(∀k,k<w.heap.size->¬Y k->¬Y' k)->(∀k,k<w.heap.size->¬Y k->w'.heap[k]?=w.heap[k]?)->R w' Y' us x
structure Za8{β:Type}(R:World->(Nat->Prop)->List Value->β->Prop)(e:TypeId)(size:Nat)(w:World)(Y:Nat->Prop)(base:Nat)(v:Value)(l:List β):Prop where
 row:∃vs,w.ownsRow base e size v l.length vs/\∀(i:Nat) (x:β),l[i]?=some x->R w Y ((vs.drop (i*size)).take size) x
 own:∀r,v.ownBlock=some r->Y r
section
variable{β:Type}{R:World->(Nat->Prop)->List Value->β->Prop}{e:TypeId}{size:Nat}{w w':World}{Y Y':Nat->Prop}{base:Nat}{v:Value}{l:List β}
theorem Za8.start(w:World)(Y:Nat->Prop)(base:Nat):Za8 R e size w Y base (.slice none 0 0) []:=
 ⟨⟨[],⟨by simp,.inl ⟨rfl,rfl⟩⟩,fun i x h=>by simp at h⟩,fun r h=>by simp[Value.ownBlock]at h⟩
theorem Za8.at_(h:Za8 R e size w Y base v l):∀g,v.ownBlock=some g->base<=g/\g<w.heap.size:=by
 obtain⟨vs,h1,_⟩:=h.row;exact Zj5 h1
theorem Za8.keep(K:ZlX R)(h:Za8 R e size w Y base v l)(hs:w.heap.size<=w'.heap.size)(hY:∀k,k<w.heap.size->¬Y k->¬Y' k)(hk:∀k,k<w.heap.size->¬Y k->w'.heap[k]?=w.heap[k]?)(ho:∀r,v.ownBlock=some r->w'.heap[r]?=w.heap[r]?/\Y' r):Za8 R e size w' Y' base v l:=by
 obtain⟨vs,h1,h2⟩:=h.row;exact⟨⟨vs,ZlW h1 (fun g hg=>(ho g hg).1),fun i x hx=>K (h2 i x hx) hs hY hk⟩,fun r hr=>(ho r hr).2⟩
theorem Za8.below(K:ZlX R)(h:Za8 R e size w Y base v l)(hb:Below w.heap.size w w'):Za8 R e size w' Y base v l:=
 h.keep K hb.size (fun _ _ h=>h) (fun k hk _=>hb.block k hk) (fun r hr=>⟨hb.block r (h.at_ r hr).2,h.own r hr⟩)
theorem Za8.shape(h:Za8 R e size w Y base v l):∃A c,v=.slice A l.length c/\l.length<=c:=by
 obtain⟨vs,h1,_⟩:=h.row;rcases h1.2 with ⟨rfl,h0⟩|⟨g,cap,cur,rfl,hb,hg,hc,_⟩
 · rw[h0];exact⟨none,0,rfl,Nat.le_refl _⟩
 · exact⟨_,cap,rfl,hc⟩
theorem Za8.append(K:ZlX R)(h:Za8 R e size w Y base v l){t ty:TypeId}{i0:TypeInfo}{z:Value}{bytes:Nat}(ht:prog.underlying t=some (.slice e))(hi:prog.info? e=some i0)(hz0:i0.zero=some z)(hz1:i0.size=size)(hz2:i0.bytes=bytes)(hzc:z.cells.size=size)(hsz:0<size)(hby:bytes<=64)
 {us:List Value} {x:β} {b:Nat} {T:TypeId} (hu:R w Y us x) (hul:us.length=size) (h1:∀u∈us,u.oneCell'=true) (hb:w.heap[b]?=some (.cells us.toArray T)) (hn:l.length<=4294967296) (hbase:base<=w.heap.size) :
 ∃v' w',(Builtin.append_ #[t,t] ty #[v,.slice (some ⟨b,0,none⟩) 1 1]).run prog w=.ok v' w'/\Za8 R e size w' (fun k=>Y k∨v'.ownBlock=some k) base v' (l++[x])/\w.grownBy w' v.ownBlock/\(v'.ownBlock=v.ownBlock∨v'.ownBlock=some w.heap.size)/\∃A c,v'=.slice A (l.length+1) c:=by
 obtain⟨vs,hown,hvs⟩:=h.row;have hvl:vs.length=l.length*size:=hown.1;have hlen:(l++[x]).length=l.length+1:=by simp
 obtain⟨v',w',hrun,h2,h3,_,h4⟩:=run_append_own_at (P:=prog) w base t ty e i0 z size bytes ht hi hz0 hz1 hz2 hzc hsz v l.length vs hown ⟨b,0,none⟩ 1 1 us (by simp[hul]) (World.news_of_block (cs:=us.toArray) hb) h1 (by unfold maxLen;omega) (by
  have:(l.length+1)*bytes<=(l.length+1)*64:=Nat.mul_le_mul_left _ hby
  omega) hbase
 have hwk:∀k,k<w.heap.size->¬Y k->w'.heap[k]?=w.heap[k]?:=fun k hk hy=>h3.block k hk (fun e=>hy (h.own k e.symm))
 refine⟨v',w',hrun,⟨⟨vs++us,by rw[hlen];exact h2,fun i y hy=>?_⟩,fun r hr=>.inr hr⟩,h3,h4,?_⟩
 · have far:∀{us:List Value} {y:β},R w Y us y->R w' (fun k=>Y k∨v'.ownBlock=some k) us y:=fun hr=>K hr h3.size (fun k hk hy hh=>by
    rcases hh with a|a
    · exact hy a
    · rcases h4 with q|q
      · rw[q]at a;exact hy (h.own k a)
      · rw[q]at a;injection a with a;omega) hwk
   rcases Nat.lt_or_ge i l.length with hi'|hi'
   · rw[List.getElem?_append_left hi']at hy
     have hle:i*size+size<=l.length*size:=by
      have:=Nat.mul_le_mul_right size (show i+1<=l.length from hi')
      rwa[Nat.add_mul,Nat.one_mul]at this
     rw[List.drop_append_of_le_length (by omega),List.take_append_of_le_length (by rw[List.length_drop];omega)];exact far (hvs i y hy)
   · rw[List.getElem?_append_right hi']at hy
     have hi0:i-l.length=0:=by
      have:=(List.getElem?_eq_some_iff.1 hy).1
      simp at this;omega
     rw[hi0]at hy;obtain rfl:x=y:=by simpa using hy
     obtain rfl:i=l.length:=by omega
     rw[<-hvl,List.drop_left,<-hul,List.take_length];exact far hu
 · obtain⟨g,cap,e,_⟩:=h2.form (Nat.succ_pos _);exact⟨_,cap,e⟩
end
theorem ZdT:(prog.info? 101).map (fun i=>(i.zero,i.size,i.bytes))=some (some (.agg #[.slice none 0 0,.slice none 0 0]),2,48):=by kernel_rfl
theorem Zj6:(prog.info? 99).map (fun i=>(i.zero,i.size,i.bytes))=some (some (.slice none 0 0),1,24):=by kernel_rfl
abbrev Zaq(p:Txt×List Int):KV:=(by_ p.1,p.2)
def Zc9(w:World)(Y:Nat->Prop)(us:List Value)(x:KV):Prop:=∃u1 u2,us = [u1,u2]/\SV w Y u1 x.1/\SV w Y u2 x.2
theorem ZV:ZlX Zc9:=by
 intro w w' Y Y' us x h hs hY hk;obtain⟨u1,u2,e,h1,h2⟩:=h;exact⟨u1,u2,e,h1.keep hs hY hk,h2.keep hs hY hk⟩
def Znw(w:World)(Y:Nat->Prop)(us:List Value)(x:List Int):Prop:=∃u,us = [u]/\SV w Y u x
theorem ZbU:ZlX Znw:=by
 intro w w' Y Y' us x h hs hY hk;obtain⟨u,e,h1⟩:=h;exact⟨u,e,h1.keep hs hY hk⟩
def Zlb(w:World)(B b off:Nat)(x:List Int):Prop:=
 ∃(ka:Option Addr) (kn kc:Nat),w.cell? ⟨b,off,none⟩=some (.slice ka kn kc)/\RB w B ka kn x/\kn<=kc/\kn<=maxLen
def Zgk(w:World)(B:Nat)(A:Option Addr)(n:Nat)(ts:List (List Int)):Prop:=
 ts.length=n/\(0<n->∃b off,A=some ⟨b,off,none⟩/\b<B/\∀j x,ts[j]?=some x->Zlb w B b (off+j) x)
section
variable{w w':World}{B B' n:Nat}{A:Option Addr}{ts:List (List Int)}
theorem Zlb.keep{b off:Nat}{x:List Int}(h:Zlb w B b off x)(hb:b<B)(hk:∀b o,b<B->w'.cell? ⟨b,o,none⟩=w.cell? ⟨b,o,none⟩):Zlb w' B b off x:=by
 obtain⟨ka,kn,kc,h0,h2,h3⟩:=h;exact⟨ka,kn,kc,(hk _ _ hb).trans h0,h2.keep hk,h3⟩
theorem Zgk.len(h:Zgk w B A n ts):ts.length=n:=h.1
end
section
variable{w w':World}{Y:Nat->Prop}{base:Nat}{A:Option Addr}{n c:Nat}
theorem Za8.pairs{l:List KV}(h:Za8 Zc9 101 2 w Y base (.slice A n c) l):n=l.length/\n<=c/\Zat w w.heap.size A n l:=by
 obtain⟨vs,h1,h2⟩:=h.row;rcases h1.2 with ⟨e,h0⟩|⟨g,cap,cur,e,hb,hg,hc,_,_,htake⟩
 · cases e;exact⟨h0.symm,Nat.le_refl _,h0,fun hn=>absurd hn (by omega)⟩
 · cases e;refine⟨rfl,hc,rfl,fun hn=>⟨g,0,rfl,(Array.getElem?_eq_some_iff.1 hg).1,fun i y hy=>?_⟩⟩;have hi:=(List.getElem?_eq_some_iff.1 hy).1;obtain⟨u1,u2,e3,⟨ka,kn,kc,rfl,a1,a2,a3,_⟩,⟨va,vn,vc,rfl,b1,b2,b3,_⟩⟩:=h2 i y hy
   have g1:vs[i*2]?=some (.slice ka kn kc):=by
    have:((vs.drop (i*2)).take 2)[0]?=some (.slice ka kn kc):=by rw[e3];rfl
    rw[List.getElem?_take,if_pos (by decide),List.getElem?_drop]at this;simpa using this
   have g2:vs[i*2+1]?=some (.slice va vn vc):=by
    have:((vs.drop (i*2)).take 2)[1]?=some (.slice va vn vc):=by rw[e3];rfl
    rw[List.getElem?_take,if_pos (by decide),List.getElem?_drop]at this;simpa using this
   refine⟨ka,kn,kc,va,vn,vc,?_,?_,a3,⟨a1,by unfold maxLen;omega⟩,b3,⟨b1,by unfold maxLen;omega⟩⟩
   · rw[Nat.zero_add,cell_of_row w g (i*2) cur _ (0,0) hg,<-g1,<-htake,List.getElem?_take,if_pos (by omega)];simp
   · rw[Nat.zero_add,cell_of_row w g (i*2+1) cur _ (0,0) hg,<-g2,<-htake,List.getElem?_take,if_pos (by omega)];simp
theorem Za8.texts{l:List (List Int)}(h:Za8 Znw 99 1 w Y base (.slice A n c) l):n=l.length/\n<=c/\Zgk w w.heap.size A n l:=by
 obtain⟨vs,h1,h2⟩:=h.row;rcases h1.2 with ⟨e,h0⟩|⟨g,cap,cur,e,hb,hg,hc,_,_,htake⟩
 · cases e;exact⟨h0.symm,Nat.le_refl _,h0,fun hn=>absurd hn (by omega)⟩
 · cases e;refine⟨rfl,hc,rfl,fun hn=>⟨g,0,rfl,(Array.getElem?_eq_some_iff.1 hg).1,fun i y hy=>?_⟩⟩;have hi:=(List.getElem?_eq_some_iff.1 hy).1;obtain⟨u1,e3,⟨ka,kn,kc,rfl,a1,a2,a3,_⟩⟩:=h2 i y hy
   have g1:vs[i]?=some (.slice ka kn kc):=by
    have:((vs.drop (i*1)).take 1)[0]?=some (.slice ka kn kc):=by rw[e3];rfl
    rw[List.getElem?_take,if_pos (by decide),List.getElem?_drop]at this;simpa using this
   refine⟨ka,kn,kc,?_,a3,a1,by unfold maxLen;omega⟩;rw[Nat.zero_add,cell_of_row w g i cur _ (0,0) hg,<-g1,<-htake,List.getElem?_take,if_pos (by omega)];simp
theorem Za8.append_pair{v:Value}{l:List KV}(h:Za8 Zc9 101 2 w Y base v l){u1 u2:Value}{x:KV}{b:Nat}{T:TypeId}(hu1:SV w Y u1 x.1)(hu2:SV w Y u2 x.2)(hb:w.heap[b]?=some (.cells #[u1,u2] T))(hn:l.length<=4294967296)(hbase:base<=w.heap.size)(ty:TypeId) :
 ∃v' w',(Builtin.append_ #[128,128] ty #[v,.slice (some ⟨b,0,none⟩) 1 1]).run prog w=.ok v' w'/\Za8 Zc9 101 2 w' (fun k=>Y k∨v'.ownBlock=some k) base v' (l++[x])/\w.grownBy w' v.ownBlock/\(v'.ownBlock=v.ownBlock∨v'.ownBlock=some w.heap.size)/\∃A c,v'=.slice A (l.length+1) c:=by
 obtain⟨i0,hi,hz0,hz1,hz2⟩:=info_parts ZdT;have o1:∀{u:Value} {l:List Int},SV w Y u l->u.oneCell'=true:=by rintro u l ⟨A,n,c,rfl,_⟩;rfl
 exact h.append @ZV underlying128 hi hz0 hz1 hz2 rfl (by decide) (by decide) (us:=[u1,u2]) ⟨u1,u2,rfl,hu1,hu2⟩ rfl (fun u hu=>by
  rcases List.mem_cons.1 hu with rfl|hu
  · exact o1 hu1
  · obtain rfl:=List.mem_singleton.1 hu;exact o1 hu2) hb hn hbase
theorem Za8.append_text{v:Value}{l:List (List Int)}(h:Za8 Znw 99 1 w Y base v l){u1:Value}{x:List Int}{b:Nat}{T:TypeId}(hu1:SV w Y u1 x)(hb:w.heap[b]?=some (.cells #[u1] T))(hn:l.length<=4294967296)(hbase:base<=w.heap.size)(ty:TypeId) :
 ∃v' w',(Builtin.append_ #[129,129] ty #[v,.slice (some ⟨b,0,none⟩) 1 1]).run prog w=.ok v' w'/\Za8 Znw 99 1 w' (fun k=>Y k∨v'.ownBlock=some k) base v' (l++[x])/\w.grownBy w' v.ownBlock/\(v'.ownBlock=v.ownBlock∨v'.ownBlock=some w.heap.size)/\∃A c,v'=.slice A (l.length+1) c:=by
 obtain⟨i0,hi,hz0,hz1,hz2⟩:=info_parts Zj6
 exact h.append @ZbU underlying129 hi hz0 hz1 hz2 rfl (by decide) (by decide) (us:=[u1]) ⟨u1,rfl,hu1⟩ rfl (fun u hu=>by
  obtain rfl:=List.mem_singleton.1 hu;obtain⟨A,n,c,rfl,_⟩:=hu1
  rfl) hb hn hbase
end
end Go.Proofs.YtiknkbpojmgbhaaGreat
