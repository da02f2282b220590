/- TabA, TabB, TabC, TabD. Conditions: in each theorem. -/
import Derived.Test.YtiknkbpojmgbhaaGreatViewN
set_option maxHeartbeats 6400000
set_option maxRecDepth 100000
set_option linter.unusedVariables false
open Go.Proofs.Tryz
open Go.Lib (hid)
namespace Go.Proofs.YtiknkbpojmgbhaaGreat
open Go.RowKit Go.Maps
def SPs(w:World)(X:Nat->Prop)(A:Option Addr)(n c:Nat)(L:TL):Prop:=
 n<=c/\L.length=n/\(0<n->∃b off,A=some ⟨b,off,none⟩/\b<w.heap.size/\¬X b/\∀j x,L[j]?=some x->∃u1 u2,w.cell? ⟨b,off+j*2,none⟩=some u1/\w.cell? ⟨b,off+j*2+1,none⟩=some u2/\SV w X u1 (by_ x.1)/\SV w X u2 x.2)
def Z9(w:World)(X:Nat->Prop)(t:Nat)(L:TL):Prop:=
 ∃A n c,w.heap[t]?=some (.cells #[.slice A n c] 144 (0,0))/\X t/\SPs w X A n c L
section
variable{w w':World}{X X':Nat->Prop}{A:Option Addr}{n c t:Nat}{L:TL}
theorem SPs.keep(h:SPs w X A n c L)(hs:w.heap.size<=w'.heap.size)(hX:∀k,k<w.heap.size->¬X k->¬X' k)(hk:∀k,k<w.heap.size->¬X k->w'.heap[k]?=w.heap[k]?):SPs w' X' A n c L:=by
 obtain⟨h1,h2,h3⟩:=h;refine⟨h1,h2,fun hn=>?_⟩;obtain⟨b,off,e,hb,hx,hp⟩:=h3 hn;refine⟨b,off,e,Nat.lt_of_lt_of_le hb hs,hX b hb hx,fun j x hj=>?_⟩;obtain⟨u1,u2,c1,c2,s1,s2⟩:=hp j x hj;have e1:=hk b hb hx;exact⟨u1,u2,(World.cell?_of_block (a:=⟨b,off+j*2,none⟩) e1).trans c1,(World.cell?_of_block (a:=⟨b,off+j*2+1,none⟩) e1).trans c2,s1.keep hs hX hk,s2.keep hs hX hk⟩
theorem SPs.nil_(w:World)(X:Nat->Prop)(A:Option Addr)(c:Nat):SPs w X A 0 c []:=⟨Nat.zero_le _,rfl,fun h=>absurd h (by omega)⟩
theorem Z9.lt(h:Z9 w X t L):t<w.heap.size:=by
 obtain⟨A,n,c,h1,_⟩:=h;exact(Array.getElem?_eq_some_iff.1 h1).1
theorem Z9.keep(h:Z9 w X t L)(hs:w.heap.size<=w'.heap.size)(hX:∀k,k<w.heap.size->¬X k->¬X' k)(hx:∀k,X k->X' k)(hk:∀k,k<w.heap.size->¬X k->w'.heap[k]?=w.heap[k]?)(ht:w'.heap[t]?=w.heap[t]?):Z9 w' X' t L:=by
 obtain⟨A,n,c,h1,h2,h3⟩:=h;exact⟨A,n,c,ht.trans h1,hx t h2,h3.keep hs hX hk⟩
theorem Z9.below(h:Z9 w X t L)(hb:RowKit.Below w.heap.size w w'):Z9 w' X t L:=h.keep hb.size (fun _ _ h=>h) (fun _ h=>h) (fun k hk _=>hb.block k hk) (hb.block t h.lt)
theorem SPs.below(h:SPs w X A n c L)(hb:RowKit.Below w.heap.size w w'):SPs w' X A n c L:=h.keep hb.size (fun _ _ h=>h) (fun k hk _=>hb.block k hk)
theorem SPs.pairs(h:SPs w X A n c L):Zat w w.heap.size A n (L.map Zaq):=by
 obtain⟨h1,h2,h3⟩:=h;refine⟨by rw[List.length_map];exact h2,fun hn=>?_⟩;obtain⟨b,off,e,hb,_,hp⟩:=h3 hn;refine⟨b,off,e,hb,fun j x hx=>?_⟩;rw[List.getElem?_map]at hx;obtain⟨q,hq,rfl⟩:=Option.map_eq_some_iff.1 hx;obtain⟨u1,u2,c1,c2,⟨ka,kn,kc,rfl,a1,a2,a3,_⟩,⟨va,vn,vc,rfl,b1,b2,b3,_⟩⟩:=hp j q hq;exact⟨ka,kn,kc,va,vn,vc,c1,c2,a3,⟨a1,by unfold maxLen;omega⟩,b3,⟨b1,by unfold maxLen;omega⟩⟩
end
theorem ZfB:∀{L:TL} {j:Nat} {x:Txt×List Int} {k:Txt},L[j]?=some x->x.1=k->(∀(a:Nat) (y:Txt×List Int),a<j->L[a]?=some y->y.1≠k)->Zf L k=some x.2
 | [],j,x,k,h,_,_=>by simp at h
 | p::L,0,x,k,h,e,_=>by
  obtain rfl:p=x:=by simpa using h
  unfold Zf;rw[if_pos e]
 | p::L,j+1,x,k,h,e,hno=>by
  unfold Zf;rw[if_neg (hno 0 p (by omega) rfl)];exact ZfB (by simpa using h) e (fun a y ha hy=>hno (a+1) y (by omega) (by simpa using hy))
section
variable{w w':World}{X X':Nat->Prop}{t:Nat}{L:TL}
theorem ZgE(h:Z9 w X t L)(hN:L.length<=4294967296){A:Option Addr}{n k B:Nat}{l:List Int}(hr:RB w B A n l)(hB:B<=w.heap.size) :
 Calls prog 212 #[.pointer (some ⟨t,0,none⟩),.slice A n k] w fun e w'=>∃u,e=.returned (.tuple #[u,.bool (Zf L (tx l)).isSome])/\SV w' (fun k=>k<w.heap.size) u ((Zf L (tx l)).getD [])/\RowKit.Below w.heap.size w w':=by
 have HT:=hid h;have HR:=hid hr;obtain⟨TA,N,TC,ht,_,hs⟩:=h;have hc0:w.cell? ⟨t,0,none⟩=some (.slice TA N TC):=by rw[cell_of_row w t 0 _ _ (0,0) ht];rfl
 have hNL:L.length=N:=hs.2.1;have HS:=hid hs;rw[hNL]at hN;have htl:=HT.out.lt;have HC:=hid (And.intro hc0 (And.intro htl hNL));clear hr ht hs hc0 htl hNL;go_enter func212,ntmps212;go_wp2_with fail
 go_loopw[6] (fun i wr=>∃j:Nat,j<=N/\i=.int .i64 j/\Hid ((∀(a:Nat) (y:Txt×List Int),a<j->L[a]?=some y->y.1≠tx l)/\RowKit.Below w.heap.size w wr)) (fun i _=>N-(intOf i).toNat)
 case atStart=>exact⟨0,Nat.zero_le _,rfl,hid ⟨fun a y h=>absurd h (Nat.not_lt_zero _),RowKit.Below.refl _ _⟩⟩
 case round=>
  obtain⟨j,hj,rfl,HM⟩:=hrel;obtain⟨hno,hb⟩:=HM.out;have c0:=(hb.cell (p:=⟨t,0,none⟩) HC.out.2.1).trans HC.out.1;by_cases hlt:j<N
  · obtain⟨x,hx⟩:∃x,L[j]?=some x:=⟨_,List.getElem?_eq_getElem (by rw[HC.out.2.2];exact hlt)⟩
    obtain⟨_,_,hp⟩:=HS.out.below hb;obtain⟨b,off,rfl,hbl,_,hp⟩:=hp (by omega);obtain⟨u1,u2,c1,c2,s1,s2⟩:=hp j x hx;obtain⟨A1,n1,k1,rfl,_,_,z1,_⟩:=s1;obtain⟨A2,n2,k2,rfl,_,z4,z2,_⟩:=s2
    have v1:∀q,(convert 99 9 (.slice A1 n1 k1)).run prog (wr.drewN q)=.ok (encStr x.1) (wr.drewN q):=fun q=>by
     have:(convert 99 9 (.slice A1 n1 k1)).run prog (wr.drewN q)=.ok (encStr (tx (by_ x.1))) (wr.drewN q):=(z1.keep (w':=wr.drewN q) fun b o _=>rfl).conv k1
     rwa[ZfJ]at this
    have v2:∀q,(convert 99 9 (.slice A n k)).run prog (wr.drewN q)=.ok (encStr (tx l)) (wr.drewN q):=fun q=>((HR.out.below (hb.mono hB)).keep (w':=wr.drewN q) fun b o _=>rfl).conv k
    have hj64:(j:Int)<(N:Int):=by omega
    have HX:=hid (And.intro hx (And.intro z2 (And.intro z4 (And.intro hno hb))));by_cases he:x.1=tx l
    · have hq:(x.1 == tx l)=true:=by simpa using he
      have HE:=hid he;clear hx z1 z2 z4 hno hb hp he;go_wp2_with fail
      go_quiet (fail)
      go_wp2_with (at_builtin;refine Z5 rfl _ _ rfl wr.heap.size (.slice none 0 0) 0 [] rfl ⟨rfl,.inl ⟨rfl,rfl⟩⟩ wr.heap.size A2 n2 k2 x.2 rfl (HX.out.2.1.keep (w':=wr.drewN nq) fun _ _ _=>rfl) (by have:=HX.out.2.2.1;omega) (Nat.le_refl _) ?_;intro v9 w9 hown9 _ hb9)
      simp only[Nat.zero_add,List.nil_append]at hown9;go_ret2;obtain⟨x1,x2,x3,x4,x5⟩:=HX.out;have hlk:Zf L (tx l)=some x.2:=ZfB x1 HE.out x4;rw[hlk];have hb5:RowKit.Below w.heap.size w (wr.drewN nq):=⟨x5.os,x5.tape,x5.output,x5.size,x5.block⟩
      exact⟨_,rfl,SV.of_own hown9 x2.bytes x3 (fun k hk=>Nat.lt_of_lt_of_le hk x5.size),hb5.trans (hb9.mono x5.size)⟩
    · have hq:(x.1 == tx l)=false:=by simpa using he
      have HN:=hid (show ∀(a:Nat) (y:Txt×List Int),a<j+1->L[a]?=some y->y.1≠tx l from fun a y ha hy=>by
       by_cases e:a=j
       · rw[e,hx]at hy;cases hy;exact he
       · exact hno a y (by omega) hy)
      have HB:=hid (show ∀q,RowKit.Below w.heap.size w (wr.drewN q)from fun q=>⟨hb.os,hb.tape,hb.output,hb.size,hb.block⟩);clear hx z1 z2 z4 hno hb hp he;go_wp2_with fail
      go_quiet (fail)
      go_wp2;go_roundw
      case rel=>exact⟨j+1,by omega,by go_num,hid ⟨HN.out,HB.out _⟩⟩
      case measure=>simp[intOf];omega
  · obtain rfl:j=N:=by omega
    have hnone:Zf L (tx l)=none:=ZO.2 fun p hp=>by
     obtain⟨a,ha,rfl⟩:=List.getElem_of_mem hp;exact hno a _ (by have:=HC.out.2.2;omega) (List.getElem?_eq_getElem ha)
    have HB:=hid (And.intro hb hnone);clear hno hb hnone;go_wp2;go_ret2;rw[HB.out.2];exact⟨_,rfl,SV.nil_ _ _ _,HB.out.1⟩
end
section
variable{w w':World}{X X' Y:Nat->Prop}{t base:Nat}{L:TL}
theorem Za8.sps{A:Option Addr}{n c:Nat}{l:TL}(h:Za8 Zc9 101 2 w Y base (.slice A n c) (l.map Zaq))(hX:∀k,X k->Y k∨w.heap.size<=k)(hA:∀b,X b->b<base∨w.heap.size<=b):SPs w X A n c l:=by
 obtain⟨vs,h1,h2⟩:=h.row;rw[List.length_map]at h1;rcases h1.2 with ⟨e,h0⟩|⟨g,cap,cur,e,hb,hg,hc,_,_,htake⟩
 · injection e with e1 e2 e3;subst e2 e3;exact⟨Nat.le_refl _,h0,fun hn=>absurd hn (by omega)⟩
 · injection e with e1 e2 e3;subst e1 e2 e3;have hgl:g<w.heap.size:=(Array.getElem?_eq_some_iff.1 hg).1;refine⟨hc,rfl,fun hn=>⟨g,0,rfl,hgl,fun hx=>by rcases hA g hx with a|a <;> omega,fun j x hj=>?_⟩⟩;have hjl:=(List.getElem?_eq_some_iff.1 hj).1;obtain⟨u1,u2,e3,s1,s2⟩:=h2 j (Zaq x) (by rw[List.getElem?_map,hj];rfl)
   have far:∀{u:Value} {d:List Int},SV w Y u d->SV w X u d:=fun hs=>by
    obtain⟨A,n,c,rfl,a1,a2,a3,a4⟩:=hs;refine⟨A,n,c,rfl,a1,a2,a3,fun a ha hn hx=>?_⟩;rcases hX _ hx with q|q
    · exact a4 a ha hn q
    · obtain⟨bb,o,e,hbb,_⟩:=a3.2.2 hn;rw[ha]at e;cases e;exact absurd hbb (Nat.not_lt.2 q)
   refine⟨u1,u2,?_,?_,far s1,far s2⟩
   · have g1:vs[j*2]?=some u1:=by
      have:((vs.drop (j*2)).take 2)[0]?=some u1:=by rw[e3];rfl
      rw[List.getElem?_take,if_pos (by decide),List.getElem?_drop]at this;simpa using this
     rw[Nat.zero_add,cell_of_row w g (j*2) cur _ (0,0) hg,<-g1,<-htake,List.getElem?_take,if_pos (by omega)];simp
   · have g1:vs[j*2+1]?=some u2:=by
      have:((vs.drop (j*2)).take 2)[1]?=some u2:=by rw[e3];rfl
      rw[List.getElem?_take,if_pos (by decide),List.getElem?_drop]at this;simpa using this
     rw[Nat.zero_add,cell_of_row w g (j*2+1) cur _ (0,0) hg,<-g1,<-htake,List.getElem?_take,if_pos (by omega)];simp
theorem ZD{B:Nat}(h:RowKit.Below B w w')(q:Nat):RowKit.Below B w (w'.drewN q):=⟨h.os,h.tape,h.output,h.size,h.block⟩
def ZQ(w wr:World)(X:Nat->Prop)(u:Value)(l:TL):Prop:=
 ∃Y:Nat->Prop,Za8 Zc9 101 2 wr Y w.heap.size u (l.map Zaq)/\(∀k,Y k->X k∨w.heap.size<=k)/\(∀k,X k->Y k)/\(∀k,Y k->k<wr.heap.size)/\RowKit.Below w.heap.size w wr
theorem ZQ.start(hX:∀k,X k->k<w.heap.size):ZQ w w X (.slice none 0 0) []:=⟨X,Za8.start _ _ _,fun k hk=>.inl hk,fun k hk=>hk,hX,RowKit.Below.refl _ _⟩
theorem ZQ.below{wr wr':World}{u:Value}{l:TL}(h:ZQ w wr X u l)(hb:RowKit.Below wr.heap.size wr wr'):ZQ w wr' X u l:=by
 obtain⟨Y,h1,h2,h3,h4,h5⟩:=h;exact⟨Y,h1.below @ZV hb,h2,h3,fun k hk=>Nat.lt_of_lt_of_le (h4 k hk) hb.size,h5.trans (hb.mono h5.size)⟩
theorem ZQ.shape{wr:World}{u:Value}{l:TL}(h:ZQ w wr X u l):∃A c,u=.slice A l.length c:=by
 obtain⟨Y,h1,_⟩:=h;obtain⟨A,c,e,_⟩:=h1.shape;rw[List.length_map]at e;exact⟨A,c,e⟩
theorem ZQ.push{wr:World}{u u1 u2:Value}{l:TL}{x:Txt×List Int}(h:ZQ w wr X u l)(s1:SV w X u1 (by_ x.1))(s2:SV w X u2 x.2)(hn:l.length<=4294967296)(ty:TypeId) :
 ∃v' w6,(Builtin.append_ #[128,128] ty #[u,.slice (some ⟨wr.heap.size,0,none⟩) 1 1]).run prog (wr.alloc (.cells #[u1,u2] 101 (0,0)))=.ok v' w6/\ZQ w w6 X v' (l++[x]):=by
 obtain⟨Y,h1,h2,h3,h4,h5⟩:=h;have hb:RowKit.Below wr.heap.size wr (wr.alloc (.cells #[u1,u2] 101 (0,0))):=(RowKit.Below.refl _ _).alloc (Nat.le_refl _) _;have hbw:=h5.trans (hb.mono h5.size)
 have far:∀{u:Value} {d:List Int},SV w X u d->SV (wr.alloc (.cells #[u1,u2] 101 (0,0))) Y u d:=fun hs=>hs.keep hbw.size (fun k hk hx hy=>by
  rcases h2 k hy with a|a
  · exact hx a
  · omega) (fun k hk _=>hbw.block k hk)
 obtain⟨v',w6,hrun,g1,g2,g3,_⟩:=(h1.below @ZV hb).append_pair (x:=Zaq x) (far s1) (far s2) (heap_alloc_new _ _) (by rw[List.length_map];exact hn) hbw.size ty;refine⟨v',w6,hrun,_,by rw[List.map_append];exact g1,fun k hk=>?_,fun k hk=>Or.inl (h3 k hk),fun k hk=>?_,hbw.trans ((RowKit.Below.refl _ _).grown g2 hbw.size (fun k hk=>(h1.at_ k hk).1))⟩
 · rcases hk with a|a
   · exact h2 k a
   · exact .inr (g1.at_ k a).1
 · rcases hk with a|a
   · exact Nat.lt_of_lt_of_le (h4 k a) (Nat.le_trans hb.size g2.size)
   · exact(g1.at_ k a).2
theorem ZQ.sps{wr:World}{A:Option Addr}{n c:Nat}{l:TL}(h:ZQ w wr X (.slice A n c) l)(hX:∀k,X k->k<w.heap.size):SPs wr X A n c l:=by
 obtain⟨Y,h1,h2,h3,h4,h5⟩:=h;exact h1.sps (fun k hk=>.inl (h3 k hk)) (fun b hb=>.inl (hX b hb))
theorem ZQ.set{wr:World}{A:Option Addr}{n c:Nat}{l:TL}(h:ZQ w wr X (.slice A n c) l)(ht:Z9 w X t L)(hX:∀k,X k->k<w.heap.size):Z9 (wr.setCell ⟨t,0,none⟩ (.slice A n c)) X t l/\Za (fun k=>k=t) w (wr.setCell ⟨t,0,none⟩ (.slice A n c)):=by
 have hs:=h.sps hX;obtain⟨Y,h1,h2,h3,h4,h5⟩:=h;obtain⟨A0,n0,c0,e0,hXt,_⟩:=ht;have htl:t<w.heap.size:=(Array.getElem?_eq_some_iff.1 e0).1;have e1:=(h5.block t htl).trans e0;have e2:=heap_setCell_same wr t 0 _ 144 (.slice A n c) e1;refine⟨⟨A,n,c,by simpa using e2,hXt,hs.keep (by simp[World.setCell]) (fun _ _ h=>h) (fun k hk hx=>Below.heap_setCell _ _ _ _ (fun e=>hx (by rw[e];exact hXt)))⟩,⟨h5.os,h5.tape,h5.output,Nat.le_trans h5.size (by simp[World.setCell]),fun k hk hne=>(Below.heap_setCell _ _ _ _ (by simpa using hne)).trans (h5.block k hk)⟩⟩
theorem Zpx{L:TL}{j:Nat}{x:Txt×List Int}{k:Txt}(hx:L[j]?=some x):ZbE (L.take (j+1)) k=if x.1=k then ZbE (L.take j) k else ZbE (L.take j) k++[x]:=by
 obtain⟨hi,rfl⟩:=List.getElem?_eq_some_iff.1 hx;unfold ZbE;rw[List.take_succ_eq_append_getElem hi,List.filter_append];by_cases e:L[j].1=k <;> simp[e]
theorem ZqQ{L:TL}{k:Txt}:decide ((ZbE L k).length<L.length)=(Zf L k).isSome:=by
 induction L with
 | nil=>rfl
 | cons p r ih=>
  unfold ZbE at ih ⊢
  rw[Zb2,List.filter_cons];by_cases e:p.1=k
  · rw[if_neg (by simpa using e),if_pos e];exact decide_eq_true (Nat.lt_succ_of_le (List.length_filter_le _ _))
  · rw[if_pos (by simpa using e),if_neg e,<-ih];simp
theorem ZhM(h:Z9 w X t L)(hX:∀k,X k->k<w.heap.size)(hN:L.length<=4294967295){A:Option Addr}{n k B:Nat}{l:List Int}(hr:RB w B A n l)(hB:B<=w.heap.size) :
 Calls prog 283 #[.pointer (some ⟨t,0,none⟩),.slice A n k] w fun e w'=>e=.returned (.bool (Zf L (tx l)).isSome)/\Z9 w' X t (ZbE L (tx l))/\Za (fun k=>k=t) w w':=by
 have HT:=hid h;have HR:=hid hr;have HXl:=hid hX;obtain⟨TA,N,TC,ht,_,hs⟩:=h;have hc0:w.cell? ⟨t,0,none⟩=some (.slice TA N TC):=by rw[cell_of_row w t 0 _ _ (0,0) ht];rfl
 have hNL:L.length=N:=hs.2.1;have HS:=hid hs;rw[hNL]at hN;have htl:=HT.out.lt;have HC:=hid (And.intro hc0 (And.intro htl hNL));have H0:=hid (show ZQ w w X (.slice none 0 0) (ZbE (L.take 0) (tx l))from ZQ.start hX);clear hr ht hs hc0 htl hNL hX;go_enter func283,ntmps283;go_wp2_with fail
 go_loopw[5,6] (fun u i wr=>∃j:Nat,j<=N/\i=.int .i64 j/\Hid (ZQ w wr X u (ZbE (L.take j) (tx l)))) (fun _ i _=>N-(intOf i).toNat)
 case atStart=>exact⟨0,Nat.zero_le _,rfl,H0⟩
 case round=>
  obtain⟨j,hj,rfl,HM⟩:=hrel;have hb:RowKit.Below w.heap.size w wr:=by obtain⟨Y,_,_,_,_,hb⟩:=HM.out;exact hb
  have c0:=(hb.cell (p:=⟨t,0,none⟩) HC.out.2.1).trans HC.out.1;obtain⟨UA,UC,rfl⟩:=HM.out.shape;by_cases hlt:j<N
  · obtain⟨x,hx⟩:∃x,L[j]?=some x:=⟨_,List.getElem?_eq_getElem (by rw[HC.out.2.2];exact hlt)⟩
    obtain⟨_,_,hp⟩:=HS.out;obtain⟨b,off,rfl,hbl,_,hp⟩:=hp (by omega);obtain⟨u1,u2,c1,c2,s1,s2⟩:=hp j x hx;have c1':=(hb.cell (p:=⟨b,off+j*2,none⟩) hbl).trans c1;have c2':=(hb.cell (p:=⟨b,off+j*2+1,none⟩) hbl).trans c2
    have hdn:(ZbE (L.take j) (tx l)).length<=4294967296:=by
     have:=ZhW (L.take j) (tx l)
     rw[List.length_take]at this;omega
    have HPU:=hid (fun q=>(HM.out.below (ZD (RowKit.Below.refl _ wr) q)).push s1 s2 hdn 128);obtain⟨A1,n1,k1,rfl,_,_,z1,_⟩:=s1;obtain⟨A2,n2,k2,rfl,_⟩:=s2
    have v1:∀q,(convert 99 9 (.slice A1 n1 k1)).run prog (wr.drewN q)=.ok (encStr x.1) (wr.drewN q):=fun q=>by
     have:(convert 99 9 (.slice A1 n1 k1)).run prog (wr.drewN q)=.ok (encStr (tx (by_ x.1))) (wr.drewN q):=(z1.below (ZD hb q)).conv k1
     rwa[ZfJ]at this
    have v2:∀q,(convert 99 9 (.slice A n k)).run prog (wr.drewN q)=.ok (encStr (tx l)) (wr.drewN q):=fun q=>(HR.out.below ((ZD hb q).mono hB)).conv k
    have hj64:(j:Int)<(N:Int):=by omega
    have hst:=Zpx (k:=tx l) hx;by_cases he:x.1=tx l
    · have hq:(x.1 == tx l)=true:=by simpa using he
      have hq2:(x.1 != tx l)=false:=by simpa using he
      have HN:=hid (show ∀q,ZQ w (wr.drewN q) X (.slice UA (ZbE (L.take j) (tx l)).length UC) (ZbE (L.take (j+1)) (tx l))from fun q=>by
       rw[hst,if_pos he]
       exact HM.out.below (ZD (RowKit.Below.refl _ wr) q))
      clear hx z1 hb hp he hst c1 c2;go_wp2_with fail
      go_quiet (fail)
      go_wp2;go_roundw
      case rel=>exact⟨j+1,by omega,by go_num,hid (HN.out _)⟩
      case measure=>simp[intOf];omega
    · have hq:(x.1 == tx l)=false:=by simpa using he
      have hq2:(x.1 != tx l)=true:=by simpa using he
      rw[if_neg he]at hst;have HST:=hid hst;clear hx z1 hb hp he hst c1 c2;go_wp2_with fail
      go_quiet (fail)
      obtain⟨v',w6,hrun,hR6⟩:=HPU.out nq;have HRUN:=hid hrun;rw[<-HST.out]at hR6;have HN:=hid hR6;clear hrun hR6
      go_wp2_with (at_builtin;refine Lib.wpList_append_run _ rfl _ _ _ _ rfl _ _ rfl rfl _ _ HRUN.out ?_)
      go_roundw
      case rel=>exact⟨j+1,by omega,by go_num,HN⟩
      case measure=>simp[intOf];omega
  · obtain rfl:j=N:=by omega
    have hall:ZbE (L.take j) (tx l)=ZbE L (tx l):=by rw[<-HC.out.2.2,List.take_length]
    rw[hall]at HM ⊢;have hset:=HM.out.set HT.out HXl.out
    have hfr:wr.frozen? ⟨t,0,none⟩=false:=by
     obtain⟨A0,n0,c0,e0,_⟩:=HT.out;exact frozen_of_row wr t 0 _ _ ((hb.block t HC.out.2.1).trans e0)
    have HFIN:=hid (And.intro hset (ZqQ (L:=L) (k:=tx l)));have HL:=hid (HC.out.2.2);have hlen64:(((ZbE L (tx l)).length:Int)<(j:Int))=((ZbE L (tx l)).length<L.length):=by rw[HL.out];exact propext (by omega)
    clear hb hset hall;go_wp2;go_ret;exact⟨congrArg (fun b=>Ending.returned (Value.bool b)) HFIN.out.2,HFIN.out.1⟩
end
theorem Zpy(p x:Txt):p.isPrefixOf x=(decide (p.length<=x.length)&&(x.take p.length == p)):=by
 rw[Bool.eq_iff_iff,List.isPrefixOf_iff_prefix,List.prefix_iff_eq_take,Bool.and_eq_true,decide_eq_true_eq,beq_iff_eq];constructor
 · intro h;have hl:=congrArg List.length h;rw[List.length_take]at hl;exact⟨by omega,h.symm⟩
 · rintro⟨_,h⟩;exact h.symm
theorem RB.front{w:World}{B n m:Nat}{A:Option Addr}{l:List Int}(h:RB w B A n l)(hm:m<=n):RB w B A m (l.take m):=by
 refine⟨by rw[List.length_take,h.len];omega,h.bytes.take m,fun hn=>?_⟩;obtain⟨b,off,e,hb,hc⟩:=h.at_ (by omega);exact⟨b,off,e,hb,fun j hj=>by rw[hc j (by omega),List.getElem?_take,if_pos hj]⟩
theorem Zoa{L:TL}{j:Nat}{x:Txt×List Int}{p:Txt}(hx:L[j]?=some x):(L.take (j+1)).filter (fun q=>p.isPrefixOf q.1)=if p.isPrefixOf x.1 then(L.take j).filter (fun q=>p.isPrefixOf q.1)++[x]else(L.take j).filter (fun q=>p.isPrefixOf q.1):=by
 obtain⟨hi,rfl⟩:=List.getElem?_eq_some_iff.1 hx;rw[List.take_succ_eq_append_getElem hi,List.filter_append];by_cases e:p.isPrefixOf L[j].1=true <;> simp[e]
section
variable{w w':World}{X X' Y:Nat->Prop}{t base:Nat}{L:TL}
theorem ZkC(h:Z9 w X t L)(hX:∀k,X k->k<w.heap.size)(hN:L.length<=4294967295){A:Option Addr}{n k B:Nat}{l:List Int}(hr:RB w B A n l)(hB:B<=w.heap.size)(hnm:n<=maxLen)(hnk:n<=k) :
 Calls prog 174 #[.pointer (some ⟨t,0,none⟩),.slice A n k] w fun e w'=>∃A' n' k',e=.returned (.slice A' n' k')/\SPs w' X A' n' k' (L.filter fun q=>(tx l).isPrefixOf q.1)/\RowKit.Below w.heap.size w w':=by
 unfold maxLen at hnm;have HT:=hid h;have HR:=hid hr;have HXl:=hid hX;have hlen:=hr.len;obtain⟨TA,N,TC,ht,_,hs⟩:=h;have hc0:w.cell? ⟨t,0,none⟩=some (.slice TA N TC):=by rw[cell_of_row w t 0 _ _ (0,0) ht];rfl
 have hNL:L.length=N:=hs.2.1;have HS:=hid hs;rw[hNL]at hN;have htl:=HT.out.lt;have HC:=hid (And.intro hc0 (And.intro htl (And.intro hNL hlen)));have H0:=hid (show ZQ w w X (.slice none 0 0) ((L.take 0).filter fun q=>(tx l).isPrefixOf q.1)from ZQ.start hX);clear hr ht hs hc0 htl hNL hX hlen;go_enter func174,ntmps174;go_wp2_with fail
 go_loopw[5,6] (fun u i wr=>∃j:Nat,j<=N/\i=.int .i64 j/\Hid (ZQ w wr X u ((L.take j).filter fun q=>(tx l).isPrefixOf q.1))) (fun _ i _=>N-(intOf i).toNat)
 case atStart=>exact⟨0,Nat.zero_le _,rfl,H0⟩
 case round=>
  obtain⟨j,hj,rfl,HM⟩:=hrel;have hb:RowKit.Below w.heap.size w wr:=by obtain⟨Y,_,_,_,_,hb⟩:=HM.out;exact hb
  have c0:=(hb.cell (p:=⟨t,0,none⟩) HC.out.2.1).trans HC.out.1;obtain⟨UA,UC,rfl⟩:=HM.out.shape;by_cases hlt:j<N
  · obtain⟨x,hx⟩:∃x,L[j]?=some x:=⟨_,List.getElem?_eq_getElem (by rw[HC.out.2.2.1];exact hlt)⟩
    obtain⟨_,_,hp⟩:=HS.out;obtain⟨b,off,rfl,hbl,_,hp⟩:=hp (by omega);obtain⟨u1,u2,c1,c2,s1,s2⟩:=hp j x hx;have c1':=(hb.cell (p:=⟨b,off+j*2,none⟩) hbl).trans c1;have c2':=(hb.cell (p:=⟨b,off+j*2+1,none⟩) hbl).trans c2
    have hdn:((L.take j).filter fun q=>(tx l).isPrefixOf q.1).length<=4294967296:=by
     have:=List.length_filter_le (fun q:Txt×List Int=>(tx l).isPrefixOf q.1) (L.take j)
     rw[List.length_take]at this;omega
    have HPU:=hid (fun q=>(HM.out.below (ZD (RowKit.Below.refl _ wr) q)).push s1 s2 hdn 128);obtain⟨A1,n1,k1,rfl,hk1,hk2,z1,_⟩:=s1;obtain⟨A2,n2,k2,rfl,_⟩:=s2;have hxn:x.1.length=n1:=by have:=z1.len;rw[ZdG]at this;exact this
    have htn:(tx l).length=n:=by rw[ZZ];exact HC.out.2.2.2
    have hpt:=Zpy (tx l) x.1;rw[htn,hxn]at hpt;have hst:=Zoa (p:=tx l) hx;have v2:∀q,(convert 99 9 (.slice A n k)).run prog (wr.drewN q)=.ok (encStr (tx l)) (wr.drewN q):=fun q=>(HR.out.below ((ZD hb q).mono hB)).conv k
    have hj64:(j:Int)<(N:Int):=by omega
    by_cases hge:n<=n1
    · have v1:∀q,(convert 99 9 (.slice A1 n k1)).run prog (wr.drewN q)=.ok (encStr (x.1.take n)) (wr.drewN q):=fun q=>by
       have:(convert 99 9 (.slice A1 n k1)).run prog (wr.drewN q)=.ok (encStr (tx ((by_ x.1).take n))) (wr.drewN q):=((z1.below (ZD hb q)).front hge).conv k1
       rwa[Zqs,ZfJ]at this
      have g1:(n:Int)<=(n1:Int):=by omega
      have g2:(0:Int)<=(n:Int):=by omega
      have g3:(n:Int)<=(k1:Int):=by omega
      rw[show decide (n<=n1)=true by simpa using hge,Bool.true_and]at hpt
      cases hq:(x.1.take n == tx l)with
      | true=>
       rw[hpt,hq,if_pos rfl]at hst;have HST:=hid hst;clear hx z1 hb hp hst c1 c2 hpt hxn htn hge;go_wp2_with fail
       go_quiet (fail)
       obtain⟨v',w6,hrun,hR6⟩:=HPU.out nq;have HRUN:=hid hrun;rw[<-HST.out]at hR6;have HN:=hid hR6;clear hrun hR6
       go_wp2_with (at_builtin;refine Lib.wpList_append_run _ rfl _ _ _ _ rfl _ _ rfl rfl _ _ HRUN.out ?_)
       go_roundw
       case rel=>exact⟨j+1,by omega,by go_num,HN⟩
       case measure=>simp[intOf];omega
      | false=>
       rw[hpt,hq,if_neg (by decide)]at hst
       have HN:=hid (show ∀q,ZQ w (wr.drewN q) X (.slice UA ((L.take j).filter fun q=>(tx l).isPrefixOf q.1).length UC) ((L.take (j+1)).filter fun q=>(tx l).isPrefixOf q.1)from fun q=>by
        rw[hst]
        exact HM.out.below (ZD (RowKit.Below.refl _ wr) q))
       clear hx z1 hb hp hst c1 c2 hpt hxn htn hge;go_wp2_with fail
       go_quiet (fail)
       go_wp2;go_roundw
       case rel=>exact⟨j+1,by omega,by go_num,hid (HN.out _)⟩
       case measure=>simp[intOf];omega
    · rw[show decide (n<=n1)=false by simpa using hge,Bool.false_and]at hpt;rw[hpt,if_neg (by decide)]at hst;have g1:decide (n<=n1)=false:=by simp;omega
      have HN:=hid (show ∀q,ZQ w (wr.drewN q) X (.slice UA ((L.take j).filter fun q=>(tx l).isPrefixOf q.1).length UC) ((L.take (j+1)).filter fun q=>(tx l).isPrefixOf q.1)from fun q=>by
       rw[hst]
       exact HM.out.below (ZD (RowKit.Below.refl _ wr) q))
      clear hx z1 hb hp hst c1 c2 hpt hxn htn hge;go_wp2_with fail
      go_quiet (fail)
      go_wp2;go_roundw
      case rel=>exact⟨j+1,by omega,by go_num,hid (HN.out _)⟩
      case measure=>simp[intOf];omega
  · obtain rfl:j=N:=by omega
    have hall:L.take j=L:=by rw[<-HC.out.2.2.1,List.take_length]
    have HALL:=hid hall;rw[hall]at HM;have HFIN:=hid (And.intro (HM.out.sps HXl.out) hb);clear hb hall;go_wp2;go_ret;refine⟨UA,_,UC,rfl,?_⟩;rw[HALL.out];exact HFIN.out
theorem ZkD(w:World){A A':Option Addr}{n k n' k':Nat}(hn:n<=maxLen)(hn':n'<=maxLen) :
 Calls prog 184 #[.slice A n k,.slice A' n' k'] w fun e w'=>e=.returned (.bool (decide (1<=n)&&decide (n<=32)&&decide (n'<=120)))/\w=w':=by
 unfold maxLen at hn hn';by_cases h1:1<=n
 · by_cases h2:n<=32
   · have t1:decide (1<=(n:Int))=true:=by simp;omega
     have t2:decide ((n:Int)<=32)=true:=by simp;omega
     have e:(decide (1<=n)&&decide (n<=32)&&decide (n'<=120))=decide ((n':Int)<=120):=by
      have:decide ((n':Int)<=120)=decide (n'<=120):=by congr 1;exact propext (by omega)
      rw[this];simp[h1,h2]
     rw[e];clear e h1 h2;go_enter func184,ntmps184;go_wp2;go_ret;exact⟨rfl,rfl⟩
   · have t1:decide (1<=(n:Int))=true:=by simp;omega
     have t2:decide ((n:Int)<=32)=false:=by simp;omega
     have e:(decide (1<=n)&&decide (n<=32)&&decide (n'<=120))=false:=by simp[h2]
     rw[e];clear e h1 h2;go_enter func184,ntmps184;go_wp2;go_ret;exact⟨rfl,rfl⟩
 · have t1:decide (1<=(n:Int))=false:=by simp;omega
   have e:(decide (1<=n)&&decide (n<=32)&&decide (n'<=120))=false:=by simp[h1]
   rw[e];clear e h1;go_enter func184,ntmps184;go_wp2;go_ret;exact⟨rfl,rfl⟩
end
theorem Zlt(b off j:Nat):Addr.add ⟨b,off,none⟩ j=⟨b,off+j,none⟩:=by
 unfold Addr.add
 split <;> simp_all
section
variable{w w':World}{X X' Y:Nat->Prop}{t base:Nat}{L:TL}
theorem ZQ.pushL{wr:World}{u:Value}{l L':TL}{A:Option Addr}{m c:Nat}(h:ZQ w wr X u l)(hs:SPs w X A m c L')(hn:l.length+m<=4294967296)(ty:TypeId) :
 ∃v' w6,(Builtin.append_ #[128,128] ty #[u,.slice A m c]).run prog wr=.ok v' w6/\ZQ w w6 X v' (l++L')/\RowKit.Below w.heap.size wr w6:=by
 obtain⟨i0,hi,hz0,hz1,hz2⟩:=info_parts ZdT;obtain⟨Y,h1,h2,h3,h4,h5⟩:=h;obtain⟨hmc,hml,hp⟩:=hs;have hg:=h1;obtain⟨⟨vs,hown,hvs⟩,hown2⟩:=h1;rw[List.length_map]at hown;rcases Nat.eq_zero_or_pos m with hm|hm
 · subst hm;obtain rfl:L' = []:=List.eq_nil_of_length_eq_zero hml;rw[List.append_nil];rcases A with _|ad
   · exact⟨u,wr,Zax (P:=prog) (w:=wr) w.heap.size 128 ty 101 i0 2 underlying128 hi u _ _ hown c,⟨Y,hg,h2,h3,h4,h5⟩,RowKit.Below.refl _ _⟩
   · obtain⟨v',w6,hrun,g1,g2,_,g3⟩:=run_append_own_at (P:=prog) wr w.heap.size 128 ty 101 i0 (.agg #[.slice none 0 0,.slice none 0 0]) 2 48 underlying128 hi hz0 hz1 hz2 rfl (by decide) u l.length vs hown ad 0 c [] rfl (fun j x hx=>by simp at hx) (fun v hv=>by cases hv) (by unfold maxLen;omega) (by omega) h5.size;rw[Nat.add_zero,List.append_nil]at g1;have hwk:∀k,k<wr.heap.size->¬Y k->w6.heap[k]?=wr.heap[k]?:=fun k hk hy=>g2.block k hk (fun e=>hy (hown2 k e.symm))
     have hbb:RowKit.Below w.heap.size wr w6:=(RowKit.Below.refl _ _).grown g2 h5.size (fun k hk=>(hg.at_ k hk).1);have g1l:=Zj5 g1;refine⟨v',w6,hrun,⟨fun k=>Y k∨v'.ownBlock=some k,⟨⟨vs,by rw[List.length_map];exact g1,fun i x hx=>ZV (hvs i x hx) g2.size (fun k hk hy hh=>?_) hwk⟩,fun r hr=>.inr hr⟩,fun k hk=>?_,fun k hk=>Or.inl (h3 k hk),fun k hk=>?_,h5.trans hbb⟩,hbb⟩
     · rcases hh with a|a
       · exact hy a
       · rcases g3 with q|q
         · rw[q]at a;exact hy (hown2 k a)
         · rw[q]at a;injection a with a;omega
     · rcases hk with a|a
       · exact h2 k a
       · exact .inr (g1l k a).1
     · rcases hk with a|a
       · exact Nat.lt_of_lt_of_le (h4 k a) g2.size
       · exact(g1l k a).2
 · obtain⟨b,off,rfl,hbl,hXb,hp⟩:=hp hm
   have hcell:∀t,t<m*2->∃A n c,w.cell? ⟨b,off+t,none⟩=some (.slice A n c):=fun t ht=>by
    obtain⟨x,hx⟩:∃x,L'[t/2]?=some x:=⟨_,List.getElem?_eq_getElem (by omega)⟩
    obtain⟨u1,u2,c1,c2,s1,s2⟩:=hp _ x hx;obtain⟨A1,n1,k1,e1⟩:=s1.slice;obtain⟨A2,n2,k2,e2⟩:=s2.slice
    have:t=t/2*2∨t=t/2*2+1:=by omega
    rcases this with q|q
    · exact⟨A1,n1,k1,by rw[<-e1,<-c1];congr 2;omega⟩
    · exact⟨A2,n2,k2,by rw[<-e2,<-c2];congr 2;omega⟩
   obtain⟨us,hus⟩:∃us:List Value,us=(List.range (m*2)).map fun t=>(w.cell? ⟨b,off+t,none⟩).getD (.bool false):=⟨_,rfl⟩
   have husl:us.length=m*2:=by rw[hus];simp
   have husat:∀t u,us[t]?=some u->t<m*2/\w.cell? ⟨b,off+t,none⟩=some u:=fun t u hu=>by
    have ht:t<m*2:=by have:=(List.getElem?_eq_some_iff.1 hu).1;omega
    obtain⟨A1,n1,k1,e⟩:=hcell t ht;rw[hus,List.getElem?_map,List.getElem?_range ht]at hu;simp[e]at hu;rw[<-hu];exact⟨ht,e⟩
   have hatus:∀t u,t<m*2->w.cell? ⟨b,off+t,none⟩=some u->us[t]?=some u:=fun t u ht e=>by
    rw[hus,List.getElem?_map,List.getElem?_range ht];simp[e]
   obtain⟨v',w6,hrun,g1,g2,_,g3⟩:=run_append_own_at (P:=prog) wr w.heap.size 128 ty 101 i0 (.agg #[.slice none 0 0,.slice none 0 0]) 2 48 underlying128 hi hz0 hz1 hz2 rfl (by decide) u l.length vs hown ⟨b,off,none⟩ m c us husl (fun j x hx=>by
    obtain⟨hj,e⟩:=husat j x hx;rw[Zlt]
    exact(h5.cell (p:=⟨b,off+j,none⟩) hbl).trans e) (fun v hv=>by
    obtain⟨j,hj,rfl⟩:=List.getElem_of_mem hv;obtain⟨q1,q2⟩:=husat j _ (List.getElem?_eq_getElem hj);obtain⟨A1,n1,k1,e⟩:=hcell j q1;rw[q2]at e;injection e with e
    rw[e];rfl) (by unfold maxLen;omega) (by omega) h5.size
   have hwk:∀k,k<wr.heap.size->¬Y k->w6.heap[k]?=wr.heap[k]?:=fun k hk hy=>g2.block k hk (fun e=>hy (hown2 k e.symm))
   have hbb:RowKit.Below w.heap.size wr w6:=(RowKit.Below.refl _ _).grown g2 h5.size (fun k hk=>(hg.at_ k hk).1);have g1l:=Zj5 g1;have hvl:vs.length=l.length*2:=hown.1
   have hYY:∀k,k<wr.heap.size->¬Y k->¬(Y k∨v'.ownBlock=some k):=fun k hk hy hh=>by
    rcases hh with a|a
    · exact hy a
    · rcases g3 with q|q
      · rw[q]at a;exact hy (hown2 k a)
      · rw[q]at a;injection a with a;omega
   have far:∀{u:Value} {d:List Int},SV w X u d->SV wr Y u d:=fun hs=>hs.keep h5.size (fun k hk hx hy=>by
    rcases h2 k hy with a|a
    · exact hx a
    · omega) (fun k hk _=>h5.block k hk)
   refine⟨v',w6,hrun,⟨fun k=>Y k∨v'.ownBlock=some k,⟨⟨vs++us,by rw[List.length_map,List.length_append,hml];exact g1,fun i x hx=>ZV (w:=wr) (Y:=Y) ?_ g2.size hYY hwk⟩,fun r hr=>.inr hr⟩,fun k hk=>?_,fun k hk=>Or.inl (h3 k hk),fun k hk=>?_,h5.trans hbb⟩,hbb⟩
   · rw[List.map_append]at hx;rcases Nat.lt_or_ge i l.length with hi'|hi'
     · rw[List.getElem?_append_left (by rw[List.length_map];exact hi')]at hx;rw[List.drop_append_of_le_length (by omega),List.take_append_of_le_length (by rw[List.length_drop];omega)];exact hvs i x hx
     · rw[List.getElem?_append_right (by rw[List.length_map];exact hi'),List.length_map,List.getElem?_map]at hx;obtain⟨q,hq,rfl⟩:=Option.map_eq_some_iff.1 hx;obtain⟨u1,u2,c1,c2,s1,s2⟩:=hp _ q hq;have hqi:i-l.length<m:=by have:=(List.getElem?_eq_some_iff.1 hq).1;omega
       have f1:(vs++us)[i*2]?=some u1:=by
        rw[List.getElem?_append_right (by omega)];exact hatus _ _ (by omega) (by rw[<-c1];congr 2;omega)
       have f2:(vs++us)[i*2+1]?=some u2:=by
        rw[List.getElem?_append_right (by omega)];exact hatus _ _ (by omega) (by rw[<-c2];congr 2;omega)
       rw[Zlu f1 f2];exact⟨u1,u2,rfl,far s1,far s2⟩
   · rcases hk with a|a
     · exact h2 k a
     · exact .inr (g1l k a).1
   · rcases hk with a|a
     · exact Nat.lt_of_lt_of_le (h4 k a) g2.size
     · exact(g1l k a).2
end
end Go.Proofs.YtiknkbpojmgbhaaGreat
