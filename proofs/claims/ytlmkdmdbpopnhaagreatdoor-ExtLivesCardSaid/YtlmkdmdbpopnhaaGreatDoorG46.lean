/- TabA, TabB, TabC, TabD, TabE, AnyT. Conditions: in each theorem. -/
import Derived.Test.YtlmkdmdbpopnhaaGreatDoorG45
import Derived.Test.YtlmkdmdbpopnhaaGreatDoorG1
import Derived.Lib.AppendZeros
import Derived.OrdersHeld
import Derived.StillTail
set_option maxHeartbeats 6400000
set_option maxRecDepth 100000
set_option linter.unusedVariables false
open Go.Proofs.Tryz
open Go.Lib (hid)
namespace Go.Proofs.YtlmkdmdbpopnhaaGreatDoor
open Go.RowKit Go.Maps
def SPs(w:World)(X:Nat->Prop)(A:Option Addr)(n c:Nat)(L:TL):Prop:=
 n<=c/\L.length=n/\(0<n->∃b off,A=some ⟨b,off,none⟩/\b<w.heap.size/\¬X b/\∀j x,L[j]?=some x->∃u1 u2,w.cell? ⟨b,off+j*2,none⟩=some u1/\w.cell? ⟨b,off+j*2+1,none⟩=some u2/\SV w X u1 (by_ x.1)/\SV w X u2 x.2)
def Zbm(w:World)(X:Nat->Prop)(t:Nat)(L:TL):Prop:=
 ∃A n c,w.heap[t]?=some (.cells #[.slice A n c] 37 (0,0))/\X t/\SPs w X A n c L
section
variable{w w':World}{X X':Nat->Prop}{A:Option Addr}{n c t:Nat}{L:TL}
theorem SPs.keep(h:SPs w X A n c L)(hs:w.heap.size<=w'.heap.size)(hX:∀k,k<w.heap.size->¬X k->¬X' k)(hk:∀k,k<w.heap.size->¬X k->w'.heap[k]?=w.heap[k]?):SPs w' X' A n c L:=by
 obtain⟨h1,h2,h3⟩:=h;refine⟨h1,h2,fun hn=>?_⟩;obtain⟨b,off,e,hb,hx,hp⟩:=h3 hn;refine⟨b,off,e,ZZd hb hs,hX b hb hx,fun j x hj=>?_⟩;obtain⟨u1,u2,c1,c2,s1,s2⟩:=hp j x hj;have e1:=hk b hb hx;exact⟨u1,u2,(World.cell?_of_block (a:=⟨b,off+j*2,none⟩) e1).trans c1,(World.cell?_of_block (a:=⟨b,off+j*2+1,none⟩) e1).trans c2,s1.keep hs hX hk,s2.keep hs hX hk⟩
theorem SPs.nil_(w:World)(X:Nat->Prop)(A:Option Addr)(c:Nat):SPs w X A 0 c []:=⟨Nat.zero_le _,rfl,fun h=>absurd h (by omega)⟩
theorem Zbm.lt(h:Zbm w X t L):t<w.heap.size:=by
 obtain⟨A,n,c,h1,_⟩:=h;exact(ZZa.1 h1).1
theorem Zbm.keep(h:Zbm w X t L)(hs:w.heap.size<=w'.heap.size)(hX:∀k,k<w.heap.size->¬X k->¬X' k)(hx:∀k,X k->X' k)(hk:∀k,k<w.heap.size->¬X k->w'.heap[k]?=w.heap[k]?)(ht:w'.heap[t]?=w.heap[t]?):Zbm w' X' t L:=by
 obtain⟨A,n,c,h1,h2,h3⟩:=h;exact⟨A,n,c,ht.trans h1,hx t h2,h3.keep hs hX hk⟩
theorem Zbm.below(h:Zbm w X t L)(hb:RowKit.Below w.heap.size w w'):Zbm w' X t L:=h.keep hb.size (fun _ _ h=>h) (fun _ h=>h) (fun k hk _=>hb.block k hk) (hb.block t h.lt)
theorem SPs.below(h:SPs w X A n c L)(hb:RowKit.Below w.heap.size w w'):SPs w' X A n c L:=h.keep hb.size (fun _ _ h=>h) (fun k hk _=>hb.block k hk)
theorem SPs.pairs(h:SPs w X A n c L):Zaa w w.heap.size A n (L.map ZoS):=by
 obtain⟨h1,h2,h3⟩:=h;refine⟨by rw[List.length_map];exact h2,fun hn=>?_⟩;obtain⟨b,off,e,hb,_,hp⟩:=h3 hn;refine⟨b,off,e,hb,fun j x hx=>?_⟩;rw[List.getElem?_map]at hx;obtain⟨q,hq,rfl⟩:=Option.map_eq_some_iff.1 hx;obtain⟨u1,u2,c1,c2,⟨ka,kn,kc,rfl,a1,a2,a3,_⟩,⟨va,vn,vc,rfl,b1,b2,b3,_⟩⟩:=hp j q hq;exact⟨ka,kn,kc,va,vn,vc,c1,c2,a3,⟨a1,by unfold maxLen;omega⟩,b3,⟨b1,by unfold maxLen;omega⟩⟩
end
theorem ZgF:∀{L:TL} {j:Nat} {x:Txt×List Int} {k:Txt},L[j]?=some x->x.1=k->(∀(a:Nat) (y:Txt×List Int),a<j->L[a]?=some y->y.1≠k)->Zak L k=some x.2
 | [],j,x,k,h,_,_=>by simp at h
 | p::L,0,x,k,h,e,_=>by
  obtain rfl:p=x:=by simpa using h
  unfold Zak;rw[if_pos e]
 | p::L,j+1,x,k,h,e,hno=>by
  unfold Zak;rw[if_neg (hno 0 p (by omega) rfl)];exact ZgF (by simpa using h) e (fun a y ha hy=>hno (a+1) y (by omega) (by simpa using hy))
section
variable{w w':World}{X X':Nat->Prop}{t:Nat}{L:TL}
theorem ZmW(h:Zbm w X t L)(hN:L.length<=4294967296){A:Option Addr}{n k B:Nat}{l:List Int}(hr:RB w B A n l)(hB:B<=w.heap.size) :
 Calls prog 30 #[.pointer (some ⟨t,0,none⟩),.slice A n k] w fun e w'=>∃u,e=.returned (.tuple #[u,.bool (Zak L (tx l)).isSome])/\SV w' (fun k=>k<w.heap.size) u ((Zak L (tx l)).getD [])/\RowKit.Below w.heap.size w w':=by
 have HT:=hid h;have HR:=hid hr;obtain⟨TA,N,TC,ht,_,hs⟩:=h;have hc0:w.cell? ⟨t,0,none⟩=some (.slice TA N TC):=by rw[cell_of_row w t 0 _ _ (0,0) ht];rfl
 have hNL:L.length=N:=hs.2.1;have HS:=hid hs;rw[hNL]at hN;have htl:=HT.out.lt;have HC:=hid (ZZg hc0 (ZZg htl hNL));clear hr ht hs hc0 htl hNL;go_enter func30,ntmps30;go_wp2_with fail
 go_loopw[6] (fun i wr=>∃j:Nat,j<=N/\i=.int .i64 j/\Hid ((∀(a:Nat) (y:Txt×List Int),a<j->L[a]?=some y->y.1≠tx l)/\RowKit.Below w.heap.size w wr)) (fun i _=>N-(intOf i).toNat)
 case atStart=>exact⟨0,Nat.zero_le _,rfl,hid ⟨fun a y h=>absurd h (Nat.not_lt_zero _),RowKit.Below.refl _ _⟩⟩
 case round=>
  obtain⟨j,hj,rfl,HM⟩:=hrel;obtain⟨hno,hb⟩:=HM.out;have c0:=(hb.cell (p:=⟨t,0,none⟩) HC.out.2.1).trans HC.out.1;by_cases hlt:j<N
  · obtain⟨x,hx⟩:∃x,L[j]?=some x:=⟨_,ZZc (by rw[HC.out.2.2];exact hlt)⟩
    obtain⟨_,_,hp⟩:=HS.out.below hb;obtain⟨b,off,rfl,hbl,_,hp⟩:=hp (by omega);obtain⟨u1,u2,c1,c2,s1,s2⟩:=hp j x hx;obtain⟨A1,n1,k1,rfl,_,_,z1,_⟩:=s1;obtain⟨A2,n2,k2,rfl,_,z4,z2,_⟩:=s2
    have v1:∀q,(convert 55 9 (.slice A1 n1 k1)).run prog (wr.drewN q)=.ok (encStr x.1) (wr.drewN q):=fun q=>by
     have:(convert 55 9 (.slice A1 n1 k1)).run prog (wr.drewN q)=.ok (encStr (tx (by_ x.1))) (wr.drewN q):=(z1.keep (w':=wr.drewN q) fun b o _=>rfl).conv k1
     rwa[ZjB]at this
    have v2:∀q,(convert 55 9 (.slice A n k)).run prog (wr.drewN q)=.ok (encStr (tx l)) (wr.drewN q):=fun q=>((HR.out.below (hb.mono hB)).keep (w':=wr.drewN q) fun b o _=>rfl).conv k
    have hj64:(j:Int)<(N:Int):=by omega
    have HX:=hid (ZZg hx (ZZg z2 (ZZg z4 (ZZg hno hb))));by_cases he:x.1=tx l
    · have hq:(x.1 == tx l)=true:=by simpa using he
      have HE:=hid he;clear hx z1 z2 z4 hno hb hp he;go_wp2_with fail
      go_quiet (fail)
      go_wp2_with (at_builtin;refine Zab rfl _ _ rfl wr.heap.size (.slice none 0 0) 0 [] rfl ⟨rfl,.inl ⟨rfl,rfl⟩⟩ wr.heap.size A2 n2 k2 x.2 rfl (HX.out.2.1.keep (w':=wr.drewN nq) fun _ _ _=>rfl) (by have:=HX.out.2.2.1;omega) (ZZe _) ?_;intro v9 w9 hown9 _ hb9)
      simp only[Nat.zero_add,List.nil_append]at hown9;go_ret2;obtain⟨x1,x2,x3,x4,x5⟩:=HX.out;have hlk:Zak L (tx l)=some x.2:=ZgF x1 HE.out x4;rw[hlk];have hb5:RowKit.Below w.heap.size w (wr.drewN nq):=⟨x5.os,x5.tape,x5.output,x5.size,x5.block⟩
      exact⟨_,rfl,SV.of_own hown9 x2.bytes x3 (fun k hk=>ZZd hk x5.size),hb5.trans (hb9.mono x5.size)⟩
    · have hq:(x.1 == tx l)=false:=by simpa using he
      have HN:=hid (show ∀(a:Nat) (y:Txt×List Int),a<j+1->L[a]?=some y->y.1≠tx l from fun a y ha hy=>by
       by_cases e:a=j
       · rw[e,hx]at hy;cases hy;exact he
       · exact hno a y (by omega) hy)
      have HB:=hid (show ∀q,RowKit.Below w.heap.size w (wr.drewN q)from fun q=>⟨hb.os,hb.tape,hb.output,hb.size,hb.block⟩);clear hx z1 z2 z4 hno hb hp he;go_wp2_with fail
      go_quiet (fail)
      go_wp2;go_roundw
      case rel=>exact⟨j+1,by omega,by go_num,hid ⟨HN.out,HB.out _⟩⟩
      case measure=>simp[intOf];omega
  · obtain rfl:j=N:=by omega
    have hnone:Zak L (tx l)=none:=Zfh.2 fun p hp=>by
     obtain⟨a,ha,rfl⟩:=List.getElem_of_mem hp;exact hno a _ (by have:=HC.out.2.2;omega) (ZZc ha)
    have HB:=hid (ZZg hb hnone);clear hno hb hnone;go_wp2;go_ret2;rw[HB.out.2];exact⟨_,rfl,SV.nil_ _ _ _,HB.out.1⟩
end
section
variable{w w':World}{X X' Y:Nat->Prop}{t base:Nat}{L:TL}
theorem ZbL.sps{A:Option Addr}{n c:Nat}{l:TL}(h:ZbL ZkZ 65 2 w Y base (.slice A n c) (l.map ZoS))(hX:∀k,X k->Y k∨w.heap.size<=k)(hA:∀b,X b->b<base∨w.heap.size<=b):SPs w X A n c l:=by
 obtain⟨vs,h1,h2⟩:=h.row;rw[List.length_map]at h1;rcases h1.2 with ⟨e,h0⟩|⟨g,cap,cur,e,hb,hg,hc,_,_,htake⟩
 · injection e with e1 e2 e3;subst e2 e3;exact⟨ZZe _,h0,fun hn=>absurd hn (by omega)⟩
 · injection e with e1 e2 e3;subst e1 e2 e3;have hgl:g<w.heap.size:=(ZZa.1 hg).1;refine⟨hc,rfl,fun hn=>⟨g,0,rfl,hgl,fun hx=>by rcases hA g hx with a|a <;> omega,fun j x hj=>?_⟩⟩;have hjl:=(ZZb.1 hj).1;obtain⟨u1,u2,e3,s1,s2⟩:=h2 j (ZoS x) (by rw[List.getElem?_map,hj];rfl)
   have far:∀{u:Value} {d:List Int},SV w Y u d->SV w X u d:=fun hs=>by
    obtain⟨A,n,c,rfl,a1,a2,a3,a4⟩:=hs;refine⟨A,n,c,rfl,a1,a2,a3,fun a ha hn hx=>?_⟩;rcases hX _ hx with q|q
    · exact a4 a ha hn q
    · obtain⟨bb,o,e,hbb,_⟩:=a3.2.2 hn;rw[ha]at e;cases e;exact absurd hbb (Nat.not_lt.2 q)
   refine⟨u1,u2,?_,?_,far s1,far s2⟩
   · have g1:vs[j*2]?=some u1:=by
      have:((vs.drop (j*2)).take 2)[0]?=some u1:=by rw[e3];rfl
      rw[List.getElem?_take,if_pos (by decide),List.getElem?_drop]at this;simpa using this
     rw[Nat.zero_add,cell_of_row w g (j*2) cur _ (0,0) hg,<-g1,<-htake,List.getElem?_take,if_pos (by omega)];simp
   · have g1:vs[j*2+1]?=some u2:=by
      have:((vs.drop (j*2)).take 2)[1]?=some u2:=by rw[e3];rfl
      rw[List.getElem?_take,if_pos (by decide),List.getElem?_drop]at this;simpa using this
     rw[Nat.zero_add,cell_of_row w g (j*2+1) cur _ (0,0) hg,<-g1,<-htake,List.getElem?_take,if_pos (by omega)];simp
theorem ZY{B:Nat}(h:RowKit.Below B w w')(q:Nat):RowKit.Below B w (w'.drewN q):=⟨h.os,h.tape,h.output,h.size,h.block⟩
def Z3(w wr:World)(X:Nat->Prop)(u:Value)(l:TL):Prop:=
 ∃Y:Nat->Prop,ZbL ZkZ 65 2 wr Y w.heap.size u (l.map ZoS)/\(∀k,Y k->X k∨w.heap.size<=k)/\(∀k,X k->Y k)/\(∀k,Y k->k<wr.heap.size)/\RowKit.Below w.heap.size w wr
theorem Z3.start(hX:∀k,X k->k<w.heap.size):Z3 w w X (.slice none 0 0) []:=⟨X,ZbL.start _ _ _,fun k hk=>.inl hk,fun k hk=>hk,hX,RowKit.Below.refl _ _⟩
theorem Z3.below{wr wr':World}{u:Value}{l:TL}(h:Z3 w wr X u l)(hb:RowKit.Below wr.heap.size wr wr'):Z3 w wr' X u l:=by
 obtain⟨Y,h1,h2,h3,h4,h5⟩:=h;exact⟨Y,h1.below @ZcP hb,h2,h3,fun k hk=>ZZd (h4 k hk) hb.size,h5.trans (hb.mono h5.size)⟩
theorem Z3.shape{wr:World}{u:Value}{l:TL}(h:Z3 w wr X u l):∃A c,u=.slice A l.length c:=by
 obtain⟨Y,h1,_⟩:=h;obtain⟨A,c,e,_⟩:=h1.shape;rw[List.length_map]at e;exact⟨A,c,e⟩
theorem Z3.push{wr:World}{u u1 u2:Value}{l:TL}{x:Txt×List Int}(h:Z3 w wr X u l)(s1:SV w X u1 (by_ x.1))(s2:SV w X u2 x.2)(hn:l.length<=4294967296)(ty:TypeId) :
 ∃v' w6,(Builtin.append_ #[31,31] ty #[u,.slice (some ⟨wr.heap.size,0,none⟩) 1 1]).run prog (wr.alloc (.cells #[u1,u2] 65 (0,0)))=.ok v' w6/\Z3 w w6 X v' (l++[x]):=by
 obtain⟨Y,h1,h2,h3,h4,h5⟩:=h;have hb:RowKit.Below wr.heap.size wr (wr.alloc (.cells #[u1,u2] 65 (0,0))):=(RowKit.Below.refl _ _).alloc (ZZe _) _;have hbw:=h5.trans (hb.mono h5.size)
 have far:∀{u:Value} {d:List Int},SV w X u d->SV (wr.alloc (.cells #[u1,u2] 65 (0,0))) Y u d:=fun hs=>hs.keep hbw.size (fun k hk hx hy=>by
  rcases h2 k hy with a|a
  · exact hx a
  · omega) (fun k hk _=>hbw.block k hk)
 obtain⟨v',w6,hrun,g1,g2,g3,_⟩:=(h1.below @ZcP hb).append_pair (x:=ZoS x) (far s1) (far s2) (heap_alloc_new _ _) (by rw[List.length_map];exact hn) hbw.size ty;refine⟨v',w6,hrun,_,by rw[List.map_append];exact g1,fun k hk=>?_,fun k hk=>Or.inl (h3 k hk),fun k hk=>?_,hbw.trans ((RowKit.Below.refl _ _).grown g2 hbw.size (fun k hk=>(h1.at_ k hk).1))⟩
 · rcases hk with a|a
   · exact h2 k a
   · exact .inr (g1.at_ k a).1
 · rcases hk with a|a
   · exact ZZd (h4 k a) (ZZf hb.size g2.size)
   · exact(g1.at_ k a).2
theorem Z3.sps{wr:World}{A:Option Addr}{n c:Nat}{l:TL}(h:Z3 w wr X (.slice A n c) l)(hX:∀k,X k->k<w.heap.size):SPs wr X A n c l:=by
 obtain⟨Y,h1,h2,h3,h4,h5⟩:=h;exact h1.sps (fun k hk=>.inl (h3 k hk)) (fun b hb=>.inl (hX b hb))
theorem Z3.set{wr:World}{A:Option Addr}{n c:Nat}{l:TL}(h:Z3 w wr X (.slice A n c) l)(ht:Zbm w X t L)(hX:∀k,X k->k<w.heap.size):Zbm (wr.setCell ⟨t,0,none⟩ (.slice A n c)) X t l/\Zf (fun k=>k=t) w (wr.setCell ⟨t,0,none⟩ (.slice A n c)):=by
 have hs:=h.sps hX;obtain⟨Y,h1,h2,h3,h4,h5⟩:=h;obtain⟨A0,n0,c0,e0,hXt,_⟩:=ht;have htl:t<w.heap.size:=(ZZa.1 e0).1;have e1:=(h5.block t htl).trans e0;have e2:=heap_setCell_same wr t 0 _ 37 (.slice A n c) e1;refine⟨⟨A,n,c,by simpa using e2,hXt,hs.keep (by simp[World.setCell]) (fun _ _ h=>h) (fun k hk hx=>Below.heap_setCell _ _ _ _ (fun e=>hx (by rw[e];exact hXt)))⟩,⟨h5.os,h5.tape,h5.output,ZZf h5.size (by simp[World.setCell]),fun k hk hne=>(Below.heap_setCell _ _ _ _ (by simpa using hne)).trans (h5.block k hk)⟩⟩
theorem ZpP{L:TL}{j:Nat}{x:Txt×List Int}{k:Txt}(hx:L[j]?=some x):Zfg (L.take (j+1)) k=if x.1=k then Zfg (L.take j) k else Zfg (L.take j) k++[x]:=by
 obtain⟨hi,rfl⟩:=ZZb.1 hx;unfold Zfg;rw[List.take_succ_eq_append_getElem hi,List.filter_append];by_cases e:L[j].1=k <;> simp[e]
theorem Zrq{L:TL}{k:Txt}:decide ((Zfg L k).length<L.length)=(Zak L k).isSome:=by
 induction L with
 | nil=>rfl
 | cons p r ih=>
  unfold Zfg at ih ⊢
  rw[ZdW,List.filter_cons];by_cases e:p.1=k
  · rw[if_neg (by simpa using e),if_pos e];exact decide_eq_true (Nat.lt_succ_of_le (List.length_filter_le _ _))
  · rw[if_pos (by simpa using e),if_neg e,<-ih];simp
theorem Zip(h:Zbm w X t L)(hX:∀k,X k->k<w.heap.size)(hN:L.length<=4294967295){A:Option Addr}{n k B:Nat}{l:List Int}(hr:RB w B A n l)(hB:B<=w.heap.size) :
 Calls prog 48 #[.pointer (some ⟨t,0,none⟩),.slice A n k] w fun e w'=>e=.returned (.bool (Zak L (tx l)).isSome)/\Zbm w' X t (Zfg L (tx l))/\Zf (fun k=>k=t) w w':=by
 have HT:=hid h;have HR:=hid hr;have HXl:=hid hX;obtain⟨TA,N,TC,ht,_,hs⟩:=h;have hc0:w.cell? ⟨t,0,none⟩=some (.slice TA N TC):=by rw[cell_of_row w t 0 _ _ (0,0) ht];rfl
 have hNL:L.length=N:=hs.2.1;have HS:=hid hs;rw[hNL]at hN;have htl:=HT.out.lt;have HC:=hid (ZZg hc0 (ZZg htl hNL));have H0:=hid (show Z3 w w X (.slice none 0 0) (Zfg (L.take 0) (tx l))from Z3.start hX);clear hr ht hs hc0 htl hNL hX;go_enter func48,ntmps48;go_wp2_with fail
 go_loopw[5,6] (fun u i wr=>∃j:Nat,j<=N/\i=.int .i64 j/\Hid (Z3 w wr X u (Zfg (L.take j) (tx l)))) (fun _ i _=>N-(intOf i).toNat)
 case atStart=>exact⟨0,Nat.zero_le _,rfl,H0⟩
 case round=>
  obtain⟨j,hj,rfl,HM⟩:=hrel;have hb:RowKit.Below w.heap.size w wr:=by obtain⟨Y,_,_,_,_,hb⟩:=HM.out;exact hb
  have c0:=(hb.cell (p:=⟨t,0,none⟩) HC.out.2.1).trans HC.out.1;obtain⟨UA,UC,rfl⟩:=HM.out.shape;by_cases hlt:j<N
  · obtain⟨x,hx⟩:∃x,L[j]?=some x:=⟨_,ZZc (by rw[HC.out.2.2];exact hlt)⟩
    obtain⟨_,_,hp⟩:=HS.out;obtain⟨b,off,rfl,hbl,_,hp⟩:=hp (by omega);obtain⟨u1,u2,c1,c2,s1,s2⟩:=hp j x hx;have c1':=(hb.cell (p:=⟨b,off+j*2,none⟩) hbl).trans c1;have c2':=(hb.cell (p:=⟨b,off+j*2+1,none⟩) hbl).trans c2
    have hdn:(Zfg (L.take j) (tx l)).length<=4294967296:=by
     have:=ZlF (L.take j) (tx l)
     rw[List.length_take]at this;omega
    have HPU:=hid (fun q=>(HM.out.below (ZY (RowKit.Below.refl _ wr) q)).push s1 s2 hdn 31);obtain⟨A1,n1,k1,rfl,_,_,z1,_⟩:=s1;obtain⟨A2,n2,k2,rfl,_⟩:=s2
    have v1:∀q,(convert 55 9 (.slice A1 n1 k1)).run prog (wr.drewN q)=.ok (encStr x.1) (wr.drewN q):=fun q=>by
     have:(convert 55 9 (.slice A1 n1 k1)).run prog (wr.drewN q)=.ok (encStr (tx (by_ x.1))) (wr.drewN q):=(z1.below (ZY hb q)).conv k1
     rwa[ZjB]at this
    have v2:∀q,(convert 55 9 (.slice A n k)).run prog (wr.drewN q)=.ok (encStr (tx l)) (wr.drewN q):=fun q=>(HR.out.below ((ZY hb q).mono hB)).conv k
    have hj64:(j:Int)<(N:Int):=by omega
    have hst:=ZpP (k:=tx l) hx;by_cases he:x.1=tx l
    · have hq:(x.1 == tx l)=true:=by simpa using he
      have hq2:(x.1 != tx l)=false:=by simpa using he
      have HN:=hid (show ∀q,Z3 w (wr.drewN q) X (.slice UA (Zfg (L.take j) (tx l)).length UC) (Zfg (L.take (j+1)) (tx l))from fun q=>by
       rw[hst,if_pos he]
       exact HM.out.below (ZY (RowKit.Below.refl _ wr) q))
      clear hx z1 hb hp he hst c1 c2;go_wp2_with fail
      go_quiet (fail)
      go_wp2;go_roundw
      case rel=>exact⟨j+1,by omega,by go_num,hid (HN.out _)⟩
      case measure=>simp[intOf];omega
    · have hq:(x.1 == tx l)=false:=by simpa using he
      have hq2:(x.1 != tx l)=true:=by simpa using he
      rw[if_neg he]at hst;have HST:=hid hst;clear hx z1 hb hp he hst c1 c2;go_wp2_with fail
      go_quiet (fail)
      obtain⟨v',w6,hrun,hR6⟩:=HPU.out nq;have HRUN:=hid hrun;rw[<-HST.out]at hR6;have HN:=hid hR6;clear hrun hR6
      go_wp2_with (at_builtin;refine Lib.wpList_append_run _ rfl _ _ _ _ rfl _ _ rfl rfl _ _ HRUN.out ?_)
      go_roundw
      case rel=>exact⟨j+1,by omega,by go_num,HN⟩
      case measure=>simp[intOf];omega
  · obtain rfl:j=N:=by omega
    have hall:Zfg (L.take j) (tx l)=Zfg L (tx l):=by rw[<-HC.out.2.2,List.take_length]
    rw[hall]at HM ⊢;have hset:=HM.out.set HT.out HXl.out
    have hfr:wr.frozen? ⟨t,0,none⟩=false:=by
     obtain⟨A0,n0,c0,e0,_⟩:=HT.out;exact frozen_of_row wr t 0 _ _ ((hb.block t HC.out.2.1).trans e0)
    have HFIN:=hid (ZZg hset (Zrq (L:=L) (k:=tx l)));have HL:=hid (HC.out.2.2);have hlen64:(((Zfg L (tx l)).length:Int)<(j:Int))=((Zfg L (tx l)).length<L.length):=by rw[HL.out];exact propext (by omega)
    clear hb hset hall;go_wp2;go_ret;exact⟨congrArg (fun b=>Ending.returned (Value.bool b)) HFIN.out.2,HFIN.out.1⟩
end
section
variable{w w':World}{X X' Y:Nat->Prop}{t base:Nat}{L:TL}
theorem Zk0(w:World){A A':Option Addr}{n k n' k':Nat}(hn:n<=maxLen)(hn':n'<=maxLen) :
 Calls prog 45 #[.slice A n k,.slice A' n' k'] w fun e w'=>e=.returned (.bool (decide (1<=n)&&decide (n<=32)&&decide (n'<=120)))/\w=w':=by
 unfold maxLen at hn hn';by_cases h1:1<=n
 · by_cases h2:n<=32
   · have t1:decide (1<=(n:Int))=true:=by simp;omega
     have t2:decide ((n:Int)<=32)=true:=by simp;omega
     have e:(decide (1<=n)&&decide (n<=32)&&decide (n'<=120))=decide ((n':Int)<=120):=by
      have:decide ((n':Int)<=120)=decide (n'<=120):=by congr 1;exact propext (by omega)
      rw[this];simp[h1,h2]
     rw[e];clear e h1 h2;go_enter func45,ntmps45;go_wp2;go_ret;exact⟨rfl,rfl⟩
   · have t1:decide (1<=(n:Int))=true:=by simp;omega
     have t2:decide ((n:Int)<=32)=false:=by simp;omega
     have e:(decide (1<=n)&&decide (n<=32)&&decide (n'<=120))=false:=by simp[h2]
     rw[e];clear e h1 h2;go_enter func45,ntmps45;go_wp2;go_ret;exact⟨rfl,rfl⟩
 · have t1:decide (1<=(n:Int))=false:=by simp;omega
   have e:(decide (1<=n)&&decide (n<=32)&&decide (n'<=120))=false:=by simp[h1]
   rw[e];clear e h1;go_enter func45,ntmps45;go_wp2;go_ret;exact⟨rfl,rfl⟩
end
theorem ZlN(b off j:Nat):Addr.add ⟨b,off,none⟩ j=⟨b,off+j,none⟩:=by
 unfold Addr.add
 split <;> simp_all
section
variable{w w':World}{X X' Y:Nat->Prop}{t base:Nat}{L:TL}
theorem Z3.pushL{wr:World}{u:Value}{l L':TL}{A:Option Addr}{m c:Nat}(h:Z3 w wr X u l)(hs:SPs w X A m c L')(hn:l.length+m<=4294967296)(ty:TypeId) :
 ∃v' w6,(Builtin.append_ #[31,31] ty #[u,.slice A m c]).run prog wr=.ok v' w6/\Z3 w w6 X v' (l++L')/\RowKit.Below w.heap.size wr w6:=by
 obtain⟨i0,hi,hz0,hz1,hz2⟩:=info_parts Zhu;obtain⟨Y,h1,h2,h3,h4,h5⟩:=h;obtain⟨hmc,hml,hp⟩:=hs;have hg:=h1;obtain⟨⟨vs,hown,hvs⟩,hown2⟩:=h1;rw[List.length_map]at hown;rcases Nat.eq_zero_or_pos m with hm|hm
 · subst hm;obtain rfl:L' = []:=List.eq_nil_of_length_eq_zero hml;rw[List.append_nil];rcases A with _|ad
   · exact⟨u,wr,Zbh (P:=prog) (w:=wr) w.heap.size 31 ty 65 i0 2 underlying31 hi u _ _ hown c,⟨Y,hg,h2,h3,h4,h5⟩,RowKit.Below.refl _ _⟩
   · obtain⟨v',w6,hrun,g1,g2,_,g3⟩:=run_append_own_at (P:=prog) wr w.heap.size 31 ty 65 i0 (.agg #[.slice none 0 0,.slice none 0 0]) 2 48 underlying31 hi hz0 hz1 hz2 rfl (by decide) u l.length vs hown ad 0 c [] rfl (fun j x hx=>by simp at hx) (fun v hv=>by cases hv) (by unfold maxLen;omega) (by omega) h5.size;rw[Nat.add_zero,List.append_nil]at g1;have hwk:∀k,k<wr.heap.size->¬Y k->w6.heap[k]?=wr.heap[k]?:=fun k hk hy=>g2.block k hk (fun e=>hy (hown2 k e.symm))
     have hbb:RowKit.Below w.heap.size wr w6:=(RowKit.Below.refl _ _).grown g2 h5.size (fun k hk=>(hg.at_ k hk).1);have g1l:=ZaM g1;refine⟨v',w6,hrun,⟨fun k=>Y k∨v'.ownBlock=some k,⟨⟨vs,by rw[List.length_map];exact g1,fun i x hx=>ZcP (hvs i x hx) g2.size (fun k hk hy hh=>?_) hwk⟩,fun r hr=>.inr hr⟩,fun k hk=>?_,fun k hk=>Or.inl (h3 k hk),fun k hk=>?_,h5.trans hbb⟩,hbb⟩
     · rcases hh with a|a
       · exact hy a
       · rcases g3 with q|q
         · rw[q]at a;exact hy (hown2 k a)
         · rw[q]at a;injection a with a;omega
     · rcases hk with a|a
       · exact h2 k a
       · exact .inr (g1l k a).1
     · rcases hk with a|a
       · exact ZZd (h4 k a) g2.size
       · exact(g1l k a).2
 · obtain⟨b,off,rfl,hbl,hXb,hp⟩:=hp hm
   have hcell:∀t,t<m*2->∃A n c,w.cell? ⟨b,off+t,none⟩=some (.slice A n c):=fun t ht=>by
    obtain⟨x,hx⟩:∃x,L'[t/2]?=some x:=⟨_,ZZc (by omega)⟩
    obtain⟨u1,u2,c1,c2,s1,s2⟩:=hp _ x hx;obtain⟨A1,n1,k1,e1⟩:=s1.slice;obtain⟨A2,n2,k2,e2⟩:=s2.slice
    have:t=t/2*2∨t=t/2*2+1:=by omega
    rcases this with q|q
    · exact⟨A1,n1,k1,by rw[<-e1,<-c1];congr 2;omega⟩
    · exact⟨A2,n2,k2,by rw[<-e2,<-c2];congr 2;omega⟩
   obtain⟨us,hus⟩:∃us:List Value,us=(List.range (m*2)).map fun t=>(w.cell? ⟨b,off+t,none⟩).getD (.bool false):=⟨_,rfl⟩
   have husl:us.length=m*2:=by rw[hus];simp
   have husat:∀t u,us[t]?=some u->t<m*2/\w.cell? ⟨b,off+t,none⟩=some u:=fun t u hu=>by
    have ht:t<m*2:=by have:=(ZZb.1 hu).1;omega
    obtain⟨A1,n1,k1,e⟩:=hcell t ht;rw[hus,List.getElem?_map,List.getElem?_range ht]at hu;simp[e]at hu;rw[<-hu];exact⟨ht,e⟩
   have hatus:∀t u,t<m*2->w.cell? ⟨b,off+t,none⟩=some u->us[t]?=some u:=fun t u ht e=>by
    rw[hus,List.getElem?_map,List.getElem?_range ht];simp[e]
   obtain⟨v',w6,hrun,g1,g2,_,g3⟩:=run_append_own_at (P:=prog) wr w.heap.size 31 ty 65 i0 (.agg #[.slice none 0 0,.slice none 0 0]) 2 48 underlying31 hi hz0 hz1 hz2 rfl (by decide) u l.length vs hown ⟨b,off,none⟩ m c us husl (fun j x hx=>by
    obtain⟨hj,e⟩:=husat j x hx;rw[ZlN]
    exact(h5.cell (p:=⟨b,off+j,none⟩) hbl).trans e) (fun v hv=>by
    obtain⟨j,hj,rfl⟩:=List.getElem_of_mem hv;obtain⟨q1,q2⟩:=husat j _ (ZZc hj);obtain⟨A1,n1,k1,e⟩:=hcell j q1;rw[q2]at e;injection e with e
    rw[e];rfl) (by unfold maxLen;omega) (by omega) h5.size
   have hwk:∀k,k<wr.heap.size->¬Y k->w6.heap[k]?=wr.heap[k]?:=fun k hk hy=>g2.block k hk (fun e=>hy (hown2 k e.symm))
   have hbb:RowKit.Below w.heap.size wr w6:=(RowKit.Below.refl _ _).grown g2 h5.size (fun k hk=>(hg.at_ k hk).1);have g1l:=ZaM g1;have hvl:vs.length=l.length*2:=hown.1
   have hYY:∀k,k<wr.heap.size->¬Y k->¬(Y k∨v'.ownBlock=some k):=fun k hk hy hh=>by
    rcases hh with a|a
    · exact hy a
    · rcases g3 with q|q
      · rw[q]at a;exact hy (hown2 k a)
      · rw[q]at a;injection a with a;omega
   have far:∀{u:Value} {d:List Int},SV w X u d->SV wr Y u d:=fun hs=>hs.keep h5.size (fun k hk hx hy=>by
    rcases h2 k hy with a|a
    · exact hx a
    · omega) (fun k hk _=>h5.block k hk)
   refine⟨v',w6,hrun,⟨fun k=>Y k∨v'.ownBlock=some k,⟨⟨vs++us,by rw[List.length_map,List.length_append,hml];exact g1,fun i x hx=>ZcP (w:=wr) (Y:=Y) ?_ g2.size hYY hwk⟩,fun r hr=>.inr hr⟩,fun k hk=>?_,fun k hk=>Or.inl (h3 k hk),fun k hk=>?_,h5.trans hbb⟩,hbb⟩
   · rw[List.map_append]at hx;rcases Nat.lt_or_ge i l.length with hi'|hi'
     · rw[List.getElem?_append_left (by rw[List.length_map];exact hi')]at hx;rw[List.drop_append_of_le_length (by omega),List.take_append_of_le_length (by rw[List.length_drop];omega)];exact hvs i x hx
     · rw[List.getElem?_append_right (by rw[List.length_map];exact hi'),List.length_map,List.getElem?_map]at hx;obtain⟨q,hq,rfl⟩:=Option.map_eq_some_iff.1 hx;obtain⟨u1,u2,c1,c2,s1,s2⟩:=hp _ q hq;have hqi:i-l.length<m:=by have:=(ZZb.1 hq).1;omega
       have f1:(vs++us)[i*2]?=some u1:=by
        rw[List.getElem?_append_right (by omega)];exact hatus _ _ (by omega) (by rw[<-c1];congr 2;omega)
       have f2:(vs++us)[i*2+1]?=some u2:=by
        rw[List.getElem?_append_right (by omega)];exact hatus _ _ (by omega) (by rw[<-c2];congr 2;omega)
       rw[ZlM f1 f2];exact⟨u1,u2,rfl,far s1,far s2⟩
   · rcases hk with a|a
     · exact h2 k a
     · exact .inr (g1l k a).1
   · rcases hk with a|a
     · exact ZZd (h4 k a) g2.size
     · exact(g1l k a).2
end
theorem Zk1:∀{L:TL} {j:Nat} {x:Txt} {v:List Int},j<=L.length->(∀(a:Nat) (y:Txt×List Int),a<j->L[a]?=some y->y.1<x)->(∀y,L[j]?=some y->x<y.1)->Zff L x v=L.take j++[(x,v)]++L.drop j
 | [],j,x,v,hj,_,_=>by
  obtain rfl:j=0:=by simpa using hj
  rfl
 | p::L,0,x,v,_,_,h2=>by
  have h:=h2 p rfl;unfold Zff;rw[if_neg (fun h'=>ZaI _ (ZdH h h')),if_neg (fun e=>by rw[e]at h;exact ZaI _ h)];rfl
 | p::L,j+1,x,v,hj,h1,h2=>by
  unfold Zff;rw[if_pos (h1 0 p (by omega) rfl),Zk1 (j:=j) (by simpa using hj) (fun a y ha hy=>h1 (a+1) y (by omega) (by simpa using hy)) (fun y hy=>h2 y (by simpa using hy))];rfl
theorem ZoI:∀{L:TL} {j:Nat} {x:Txt} {v:List Int} {y:Txt×List Int},(∀(a:Nat) (y:Txt×List Int),a<j->L[a]?=some y->y.1<x)->L[j]?=some y->y.1=x->Zff L x v=L.set j (x,v)
 | [],j,x,v,y,_,h,_=>by simp at h
 | p::L,0,x,v,y,_,h,e=>by
  obtain rfl:p=y:=by simpa using h
  unfold Zff;rw[if_neg (fun h'=>by rw[e]at h';exact ZaI _ h'),if_pos e];rfl
 | p::L,j+1,x,v,y,h1,h2,e=>by
  unfold Zff;rw[if_pos (h1 0 p (by omega) rfl),ZoI (j:=j) (fun a y ha hy=>h1 (a+1) y (by omega) (by simpa using hy)) (by simpa using h2) e];rfl
section
variable{w w':World}{X X' Y:Nat->Prop}{t base:Nat}{L:TL}
theorem SPs.front{A:Option Addr}{n c j:Nat}(h:SPs w X A n c L)(hj:j<=n):SPs w X A j c (L.take j):=by
 obtain⟨h1,h2,h3⟩:=h;refine⟨by omega,by rw[List.length_take];omega,fun hn=>?_⟩;obtain⟨b,off,e,hb,hx,hp⟩:=h3 (by omega);refine⟨b,off,e,hb,hx,fun i y hy=>hp i y ?_⟩;rw[List.getElem?_take]at hy
 split at hy
 · exact hy
 · cases hy
theorem SPs.back{b off n c j:Nat}(h:SPs w X (some ⟨b,off,none⟩) n c L)(hj:j<=n):SPs w X (some ⟨b,off+j*2,none⟩) (n-j) (c-j) (L.drop j):=by
 obtain⟨h1,h2,h3⟩:=h;refine⟨by omega,by rw[List.length_drop];omega,fun hn=>?_⟩;obtain⟨b',off',e,hb,hx,hp⟩:=h3 (by omega);cases e;refine⟨b,off+j*2,rfl,hb,hx,fun i y hy=>?_⟩;rw[List.getElem?_drop]at hy
 have:=hp (j+i) y hy
 rwa[show off+(j+i)*2=off+j*2+i*2 by omega]at this
theorem ZbX{w:World}{A:Option Addr}{n k B:Nat}{l:List Int}(hr:RB w B A n l)(hB:B<=w.heap.size)(hn:n<=140737488355328)(ty:TypeId) :
 ∃u w',(Builtin.append_ #[55,55] ty #[.slice none 0 0,.slice A n k]).run prog w=.ok u w'/\SV w' (fun k=>k<w.heap.size) u l/\RowKit.Below w.heap.size w w':=by
 obtain⟨i0,hi,hz0,hz1,hz2⟩:=info_parts Zbg;have hown:w.ownsRow w.heap.size 5 1 (.slice none 0 0) 0 []:=⟨rfl,.inl ⟨rfl,rfl⟩⟩
 rcases A with _|ad
 · have hm:n=0:=by
    rcases Nat.eq_zero_or_pos n with h0|h0
    · exact h0
    · obtain⟨b,off,e,_⟩:=hr.at_ h0;cases e
   subst hm;obtain rfl:l = []:=List.eq_nil_of_length_eq_zero hr.len;exact⟨_,w,Zbh (P:=prog) (w:=w) w.heap.size 55 ty 5 i0 1 underlying55 hi _ _ _ hown k,SV.nil_ _ _ _,RowKit.Below.refl _ _⟩
 · obtain⟨v',w',hrun,h1,h2,_,h3⟩:=run_append_own_at (P:=prog) w w.heap.size 55 ty 5 i0 (.int .u8 0) 1 1 underlying55 hi hz0 hz1 hz2 rfl (by decide) (.slice none 0 0) 0 [] hown ad n k (l.map (Value.int .u8)) (by simp[hr.len]) (fun j u hj=>by
    obtain⟨ad',e,hc⟩:=hr.src j u hj;cases e
    exact hc) (Zai l) (by unfold maxLen;omega) (by omega) (ZZe _)
   rw[Nat.zero_add,List.nil_append]at h1;exact⟨v',w',hrun,SV.of_own h1 hr.bytes hn (fun k hk=>hk),(RowKit.Below.refl _ _).grown h2 (ZZe _) (fun k hk=>by simp[Value.ownBlock]at hk)⟩
theorem Z3.bel{wr:World}{u:Value}{l:TL}(h:Z3 w wr X u l):RowKit.Below w.heap.size w wr:=by
 obtain⟨Y,_,_,_,_,h⟩:=h;exact h
theorem Z3.pushAt{wr:World}{u u1 u2:Value}{l:TL}{x:Txt×List Int}{b:Nat}(h:Z3 w wr X u l)(s1:SV w X u1 (by_ x.1))(s2:SV w X u2 x.2)(hb:wr.heap[b]?=some (.cells #[u1,u2] 65 (0,0)))(hn:l.length<=4294967296)(ty:TypeId) :
 ∃v' w6,(Builtin.append_ #[31,31] ty #[u,.slice (some ⟨b,0,none⟩) 1 1]).run prog wr=.ok v' w6/\Z3 w w6 X v' (l++[x])/\RowKit.Below w.heap.size w w6:=by
 obtain⟨Y,h1,h2,h3,h4,h5⟩:=h
 have far:∀{u:Value} {d:List Int},SV w X u d->SV wr Y u d:=fun hs=>hs.keep h5.size (fun k hk hx hy=>by
  rcases h2 k hy with a|a
  · exact hx a
  · omega) (fun k hk _=>h5.block k hk)
 obtain⟨v',w6,hrun,g1,g2,g3,_⟩:=h1.append_pair (x:=ZoS x) (far s1) (far s2) hb (by rw[List.length_map];exact hn) h5.size ty;have hbb:RowKit.Below w.heap.size w w6:=h5.trans ((RowKit.Below.refl _ _).grown g2 h5.size (fun k hk=>(h1.at_ k hk).1));refine⟨v',w6,hrun,⟨_,by rw[List.map_append];exact g1,fun k hk=>?_,fun k hk=>Or.inl (h3 k hk),fun k hk=>?_,hbb⟩,hbb⟩
 · rcases hk with a|a
   · exact h2 k a
   · exact .inr (g1.at_ k a).1
 · rcases hk with a|a
   · exact ZZd (h4 k a) g2.size
   · exact(g1.at_ k a).2
theorem Z3.setAt{wr:World}{A:Option Addr}{n c j:Nat}{l:TL}{x:Txt×List Int}{u1 u2:Value}(h:Z3 w wr X (.slice A n c) l)(hj:j<l.length)(s1:SV w X u1 (by_ x.1))(s2:SV w X u2 x.2) :
 ∃g,A=some ⟨g,0,none⟩/\w.heap.size<=g/\n=l.length/\(∀i,wr.frozen? ⟨g,i,none⟩=false)/\(∃v1,wr.cell? ⟨g,j*2,none⟩=some v1)/\(∃v2,wr.cell? ⟨g,j*2+1,none⟩=some v2)/\
  Z3 w ((wr.setCell ⟨g,j*2,none⟩ u1).setCell ⟨g,j*2+1,none⟩ u2) X (.slice A n c) (l.set j x):=by
 obtain⟨Y,h1,h2,h3,h4,h5⟩:=h
 obtain⟨g,rfl⟩:∃g,A=some ⟨g,0,none⟩:=by
  obtain⟨vs,hr,_⟩:=h1.row;rcases hr.2 with ⟨e,h0⟩|⟨g,cap,cur,e,_⟩
  · rw[List.length_map]at h0;omega
  · injection e with e1;exact⟨g,e1⟩
 obtain⟨hnl,hbg,hYg,vs,hR,hP⟩:=h1.open_;rw[List.length_map]at hnl;have hR':=hR.set2 (i:=j) (by omega) u1 u2;have hvl:=hR.len;have htch:Zf (fun k=>k=g) wr ((wr.setCell ⟨g,j*2,none⟩ u1).setCell ⟨g,j*2+1,none⟩ u2):=⟨rfl,rfl,rfl,by simp[World.setCell],fun k hk hne=>(Below.heap_setCell _ _ _ _ (by simpa using hne)).trans (Below.heap_setCell _ _ _ _ (by simpa using hne))⟩
 have far:∀{u:Value} {d:List Int},SV w X u d->SV wr Y u d:=fun hs=>hs.keep h5.size (fun k hk hx hy=>by
  rcases h2 k hy with a|a
  · exact hx a
  · omega) (fun k hk _=>h5.block k hk)
 have far2:∀{u:Value} {d:List Int},SV wr Y u d->SV ((wr.setCell ⟨g,j*2,none⟩ u1).setCell ⟨g,j*2+1,none⟩ u2) Y u d:=fun hs=>hs.keep htch.size (fun _ _ h=>h) (fun k hk hy=>htch.block k hk fun e=>hy (by rw[e];exact hYg))
 have hG:=ZbL.shut (l:=(l.set j x).map ZoS) (Y:=Y) (base:=w.heap.size) hR' (by simp;omega) hbg hYg (fun a y hy=>by
  rw[List.getElem?_map]at hy;obtain⟨q,hq,rfl⟩:=Option.map_eq_some_iff.1 hy;by_cases e:a=j
  · subst e;rw[List.getElem?_set_self hj]at hq;obtain rfl:x=q:=by simpa using hq
    refine⟨u1,u2,?_,?_,far2 (far s1),far2 (far s2)⟩
    · rw[List.getElem?_set_ne (by omega),List.getElem?_set_self (by omega)]
    · rw[List.getElem?_set_self (by rw[List.length_set];omega)]
  · rw[List.getElem?_set_ne (Ne.symm e)]at hq;refine((hP a (ZoS q) (by rw[List.getElem?_map,hq];rfl)).keep htch hYg).of ?_ ?_
    · rw[List.getElem?_set_ne (by omega),List.getElem?_set_ne (by omega)]
    · rw[List.getElem?_set_ne (by omega),List.getElem?_set_ne (by omega)])
 have hlen:((l.set j x).map ZoS).length=n:=by simp[hnl]
 rw[hlen]at hG;refine⟨g,rfl,hbg,hnl,fun i=>hR.frozen i,⟨_,hR.cell (ZZc (by omega))⟩,⟨_,hR.cell (ZZc (by omega))⟩,⟨Y,hG,h2,h3,fun k hk=>ZZd (h4 k hk) htch.size,⟨h5.os,h5.tape,h5.output,ZZf h5.size htch.size,fun k hk=>(htch.block k (ZZd hk h5.size) (by omega)).trans (h5.block k hk)⟩⟩⟩
theorem SPs.back_any{A:Option Addr}{n c j:Nat}(h:SPs w X A n c L)(hj:j<=n):SPs w X (if c=j then A else A.map (·.add (j*2))) (n-j) (c-j) (L.drop j):=by
 by_cases e:j=n
 · subst e
   have:L.drop j = []:=List.drop_eq_nil_of_le (by rw[h.2.1];exact ZZe _)
   rw[this,Nat.sub_self];exact SPs.nil_ _ _ _ _
 · have hc:¬c=j:=by have:=h.1;omega
   obtain⟨b,off,rfl,_⟩:=h.2.2 (by omega);rw[if_neg hc]
   have:=h.back hj
   rw[show(some (⟨b,off,none⟩:Addr)).map (·.add (j*2))=some ⟨b,off+j*2,none⟩ from congrArg some (ZlN _ _ _)];exact this
def Zhv(w:World)(X:Nat->Prop)(t:Nat)(L':TL)(W:World)(gl:Nat)(v6:Value)(A2:Option Addr)(m c2:Nat):Prop:=
 ∃v7 w7,(Builtin.append_ #[31,31] 31 #[v6,.slice (some ⟨gl,0,none⟩) 1 1]).run prog W=.ok v7 w7/\RowKit.Below w.heap.size w w7/\
  ∃A8 n8 c8 w8,(Builtin.append_ #[31,31] 31 #[v7,.slice A2 m c2]).run prog w7=.ok (.slice A8 n8 c8) w8/\RowKit.Below w.heap.size w w8/\
   w8.frozen? ⟨t,0,none⟩=false/\Zbm (w8.setCell ⟨t,0,none⟩ (.slice A8 n8 c8)) X t L'/\Zf (fun k=>k=t) w (w8.setCell ⟨t,0,none⟩ (.slice A8 n8 c8))
theorem Zhv.mk_{w0 W:World}{L1 L2:TL}{gl m c2:Nat}{v6 uk uv:Value}{A2:Option Addr}{x:Txt×List Int}(hb:RowKit.Below w.heap.size w w0)(ht:Zbm w X t L)(hX:∀k,X k->k<w.heap.size)(hT:Z3 w0 W X v6 L1)(hlit:W.heap[gl]?=some (.cells #[uk,uv] 65 (0,0)))
 (sk:SV w X uk (by_ x.1)) (sv:SV w X uv x.2) (hs:SPs w X A2 m c2 L2) (h1:L1.length<=2147483647) (h2:m<=2147483647):Zhv w X t (L1++[x]++L2) W gl v6 A2 m c2:=by
 obtain⟨v7,w7,hr7,hT7,hb7⟩:=hT.pushAt (x:=x) (sk.keep hb.size (fun _ _ h=>h) (fun k hk _=>hb.block k hk)) (sv.keep hb.size (fun _ _ h=>h) (fun k hk _=>hb.block k hk)) hlit (by omega) 31;obtain⟨v8,w8,hr8,hT8,hb8⟩:=hT7.pushL (hs.below hb) (by rw[List.length_append];simp;omega) 31;obtain⟨A8,c8,rfl⟩:=hT8.shape;have hset:=hT8.set (ht.below hb) (fun k hk=>ZZd (hX k hk) hb.size);have hb8':=hb.trans (hT8.bel.mono hb.size);refine⟨v7,w7,hr7,hb.trans (hb7.mono hb.size),A8,_,c8,w8,hr8,hb8',?_,hset.1,?_⟩
 · obtain⟨A0,n0,c0,e0,_⟩:=ht;exact frozen_of_row w8 t 0 _ _ ((hb8'.block t (ZZa.1 e0).1).trans e0)
 · obtain⟨a1,a2,a3,a4,a5⟩:=hset.2;exact⟨a1.trans hb.os,a2.trans hb.tape,a3.trans hb.output,ZZf hb.size a4,fun k hk hne=>(a5 k (ZZd hk hb.size) hne).trans (hb.block k hk)⟩
theorem ZrE{wd:World}{A1 A2:Option Addr}{L1 L2:TL}{n1 c1 m c2:Nat}{uk uv:Value}{x:Txt×List Int}(hb:RowKit.Below w.heap.size w wd)(ht:Zbm w X t L)(hX:∀k,X k->k<w.heap.size)(h1:SPs w X A1 n1 c1 L1)(hs:SPs w X A2 m c2 L2)
 (sk:SV w X uk (by_ x.1)) (sv:SV w X uv x.2) (hn1:n1<=2147483647) (hm:m<=2147483647) :
 ∃v6 w6,(Builtin.append_ #[31,31] 31 #[.slice none 0 0,.slice A1 n1 c1]).run prog wd.drew=.ok v6 w6/\RowKit.Below w.heap.size w w6/\RowKit.Below w.heap.size w (w6.alloc (.cells #[uk,uv] 65 (0,0)))/\Zhv w X t (L1++[x]++L2) (w6.alloc (.cells #[uk,uv] 65 (0,0))) w6.heap.size v6 A2 m c2:=by
 have hbd:RowKit.Below w.heap.size w wd.drew:=hb.drew;obtain⟨v6,w6,hr6,hT6,hb6⟩:=((Z3.start hX).below hbd).pushL h1 (by simp;omega) 31;rw[List.nil_append]at hT6
 replace hb6:=hT6.bel
 have hba:=hb6.alloc hb6.size (.cells #[uk,uv] 65 (0,0));exact⟨v6,w6,hr6,hb6,hba,Zhv.mk_ (RowKit.Below.refl _ _) ht hX (hT6.below ((RowKit.Below.refl _ _).alloc (ZZe _) _)) (heap_alloc_new _ _) sk sv hs (by rw[h1.2.1];exact hn1) hm⟩
theorem ZrF{wd:World}{A1 A2:Option Addr}{L1 L2:TL}{n1 c1 m c2:Nat}{uk uv:Value}{x:Txt×List Int}(hb:RowKit.Below w.heap.size w wd)(ht:Zbm w X t L)(hX:∀k,X k->k<w.heap.size)(h1:SPs w X A1 n1 c1 L1)(hs:SPs w X A2 m c2 L2)
 (sk:SV w X uk (by_ x.1)) (sv:SV w X uv x.2) (hn1:n1<=2147483647) (hm:m<=2147483647) :
 RowKit.Below w.heap.size w (wd.alloc (.cells #[uk,uv] 65 (0,0))).drew/\∃v6 w6,(Builtin.append_ #[31,31] 31 #[.slice none 0 0,.slice A1 n1 c1]).run prog (wd.alloc (.cells #[uk,uv] 65 (0,0))).drew=.ok v6 w6/\RowKit.Below w.heap.size w w6/\Zhv w X t (L1++[x]++L2) w6 wd.heap.size v6 A2 m c2:=by
 have hbd:RowKit.Below w.heap.size w (wd.alloc (.cells #[uk,uv] 65 (0,0))).drew:=(hb.alloc hb.size _).drew;have hlit:(wd.alloc (.cells #[uk,uv] 65 (0,0))).drew.heap[wd.heap.size]?=some (.cells #[uk,uv] 65 (0,0)):=heap_alloc_new wd _;have hlt:wd.heap.size<(wd.alloc (.cells #[uk,uv] 65 (0,0))).drew.heap.size:=(ZZa.1 hlit).1;obtain⟨v6,w6,hr6,hT6,hb6⟩:=(Z3.start (w:=(wd.alloc (.cells #[uk,uv] 65 (0,0))).drew) (fun k hk=>ZZd (hX k hk) hbd.size)).pushL (h1.below hbd) (by simp;omega) 31;rw[List.nil_append]at hT6;exact⟨hbd,v6,w6,hr6,hbd.trans (hb6.mono hbd.size),Zhv.mk_ hbd ht hX hT6 ((hb6.block _ hlt).trans hlit) sk sv hs (by rw[h1.2.1];exact hn1) hm⟩
end
end Go.Proofs.YtlmkdmdbpopnhaaGreatDoor
namespace Go.Proofs.YtlmkdmdbpopnhaaGreatDoor
open Go.RowKit
end Go.Proofs.YtlmkdmdbpopnhaaGreatDoor
