/- TabE, TabF. Conditions: in each theorem. -/
import Derived.Test.YtiknkbpojmgbhaaGreatTabD
import Derived.Lib.AppendZeros
import Derived.Test.YtiknkbpojmgbhaaGreatAnyZ
import Derived.Sort.Walk0
set_option maxHeartbeats 6400000
set_option maxRecDepth 100000
set_option linter.unusedVariables false
open Go.Proofs.Tryz
open Go.Lib (hid)
namespace Go.Proofs.YtiknkbpojmgbhaaGreat
open Go.RowKit Go.Maps
theorem ZkE:∀{L:TL} {j:Nat} {x:Txt} {v:List Int},j<=L.length->(∀(a:Nat) (y:Txt×List Int),a<j->L[a]?=some y->y.1<x)->(∀y,L[j]?=some y->x<y.1)->Zaw L x v=L.take j++[(x,v)]++L.drop j
 | [],j,x,v,hj,_,_=>by
  obtain rfl:j=0:=by simpa using hj
  rfl
 | p::L,0,x,v,_,_,h2=>by
  have h:=h2 p rfl;unfold Zaw;rw[if_neg (fun h'=>ZC _ (ZbD h h')),if_neg (fun e=>by rw[e]at h;exact ZC _ h)];rfl
 | p::L,j+1,x,v,hj,h1,h2=>by
  unfold Zaw;rw[if_pos (h1 0 p (by omega) rfl),ZkE (j:=j) (by simpa using hj) (fun a y ha hy=>h1 (a+1) y (by omega) (by simpa using hy)) (fun y hy=>h2 y (by simpa using hy))];rfl
theorem Zob:∀{L:TL} {j:Nat} {x:Txt} {v:List Int} {y:Txt×List Int},(∀(a:Nat) (y:Txt×List Int),a<j->L[a]?=some y->y.1<x)->L[j]?=some y->y.1=x->Zaw L x v=L.set j (x,v)
 | [],j,x,v,y,_,h,_=>by simp at h
 | p::L,0,x,v,y,_,h,e=>by
  obtain rfl:p=y:=by simpa using h
  unfold Zaw;rw[if_neg (fun h'=>by rw[e]at h';exact ZC _ h'),if_pos e];rfl
 | p::L,j+1,x,v,y,h1,h2,e=>by
  unfold Zaw;rw[if_pos (h1 0 p (by omega) rfl),Zob (j:=j) (fun a y ha hy=>h1 (a+1) y (by omega) (by simpa using hy)) (by simpa using h2) e];rfl
section
variable{w w':World}{X X' Y:Nat->Prop}{t base:Nat}{L:TL}
theorem SPs.front{A:Option Addr}{n c j:Nat}(h:SPs w X A n c L)(hj:j<=n):SPs w X A j c (L.take j):=by
 obtain⟨h1,h2,h3⟩:=h;refine⟨by omega,by rw[List.length_take];omega,fun hn=>?_⟩;obtain⟨b,off,e,hb,hx,hp⟩:=h3 (by omega);refine⟨b,off,e,hb,hx,fun i y hy=>hp i y ?_⟩;rw[List.getElem?_take]at hy
 split at hy
 · exact hy
 · cases hy
theorem SPs.back{b off n c j:Nat}(h:SPs w X (some ⟨b,off,none⟩) n c L)(hj:j<=n):SPs w X (some ⟨b,off+j*2,none⟩) (n-j) (c-j) (L.drop j):=by
 obtain⟨h1,h2,h3⟩:=h;refine⟨by omega,by rw[List.length_drop];omega,fun hn=>?_⟩;obtain⟨b',off',e,hb,hx,hp⟩:=h3 (by omega);cases e;refine⟨b,off+j*2,rfl,hb,hx,fun i y hy=>?_⟩;rw[List.getElem?_drop]at hy
 have:=hp (j+i) y hy
 rwa[show off+(j+i)*2=off+j*2+i*2 by omega]at this
theorem Zbk{w:World}{A:Option Addr}{n k B:Nat}{l:List Int}(hr:RB w B A n l)(hB:B<=w.heap.size)(hn:n<=140737488355328)(ty:TypeId) :
 ∃u w',(Builtin.append_ #[99,99] ty #[.slice none 0 0,.slice A n k]).run prog w=.ok u w'/\SV w' (fun k=>k<w.heap.size) u l/\RowKit.Below w.heap.size w w':=by
 obtain⟨i0,hi,hz0,hz1,hz2⟩:=info_parts Zg7;have hown:w.ownsRow w.heap.size 5 1 (.slice none 0 0) 0 []:=⟨rfl,.inl ⟨rfl,rfl⟩⟩
 rcases A with _|ad
 · have hm:n=0:=by
    rcases Nat.eq_zero_or_pos n with h0|h0
    · exact h0
    · obtain⟨b,off,e,_⟩:=hr.at_ h0;cases e
   subst hm;obtain rfl:l = []:=List.eq_nil_of_length_eq_zero hr.len;exact⟨_,w,Zax (P:=prog) (w:=w) w.heap.size 99 ty 5 i0 1 underlying99 hi _ _ _ hown k,SV.nil_ _ _ _,RowKit.Below.refl _ _⟩
 · obtain⟨v',w',hrun,h1,h2,_,h3⟩:=run_append_own_at (P:=prog) w w.heap.size 99 ty 5 i0 (.int .u8 0) 1 1 underlying99 hi hz0 hz1 hz2 rfl (by decide) (.slice none 0 0) 0 [] hown ad n k (l.map (Value.int .u8)) (by simp[hr.len]) (fun j u hj=>by
    obtain⟨ad',e,hc⟩:=hr.src j u hj;cases e
    exact hc) (Zbl l) (by unfold maxLen;omega) (by omega) (Nat.le_refl _)
   rw[Nat.zero_add,List.nil_append]at h1;exact⟨v',w',hrun,SV.of_own h1 hr.bytes hn (fun k hk=>hk),(RowKit.Below.refl _ _).grown h2 (Nat.le_refl _) (fun k hk=>by simp[Value.ownBlock]at hk)⟩
theorem ZQ.bel{wr:World}{u:Value}{l:TL}(h:ZQ w wr X u l):RowKit.Below w.heap.size w wr:=by
 obtain⟨Y,_,_,_,_,h⟩:=h;exact h
theorem ZQ.pushAt{wr:World}{u u1 u2:Value}{l:TL}{x:Txt×List Int}{b:Nat}(h:ZQ w wr X u l)(s1:SV w X u1 (by_ x.1))(s2:SV w X u2 x.2)(hb:wr.heap[b]?=some (.cells #[u1,u2] 101 (0,0)))(hn:l.length<=4294967296)(ty:TypeId) :
 ∃v' w6,(Builtin.append_ #[128,128] ty #[u,.slice (some ⟨b,0,none⟩) 1 1]).run prog wr=.ok v' w6/\ZQ w w6 X v' (l++[x])/\RowKit.Below w.heap.size w w6:=by
 obtain⟨Y,h1,h2,h3,h4,h5⟩:=h
 have far:∀{u:Value} {d:List Int},SV w X u d->SV wr Y u d:=fun hs=>hs.keep h5.size (fun k hk hx hy=>by
  rcases h2 k hy with a|a
  · exact hx a
  · omega) (fun k hk _=>h5.block k hk)
 obtain⟨v',w6,hrun,g1,g2,g3,_⟩:=h1.append_pair (x:=Zaq x) (far s1) (far s2) hb (by rw[List.length_map];exact hn) h5.size ty;have hbb:RowKit.Below w.heap.size w w6:=h5.trans ((RowKit.Below.refl _ _).grown g2 h5.size (fun k hk=>(h1.at_ k hk).1));refine⟨v',w6,hrun,⟨_,by rw[List.map_append];exact g1,fun k hk=>?_,fun k hk=>Or.inl (h3 k hk),fun k hk=>?_,hbb⟩,hbb⟩
 · rcases hk with a|a
   · exact h2 k a
   · exact .inr (g1.at_ k a).1
 · rcases hk with a|a
   · exact Nat.lt_of_lt_of_le (h4 k a) g2.size
   · exact(g1.at_ k a).2
theorem ZQ.setAt{wr:World}{A:Option Addr}{n c j:Nat}{l:TL}{x:Txt×List Int}{u1 u2:Value}(h:ZQ w wr X (.slice A n c) l)(hj:j<l.length)(s1:SV w X u1 (by_ x.1))(s2:SV w X u2 x.2) :
 ∃g,A=some ⟨g,0,none⟩/\w.heap.size<=g/\n=l.length/\(∀i,wr.frozen? ⟨g,i,none⟩=false)/\(∃v1,wr.cell? ⟨g,j*2,none⟩=some v1)/\(∃v2,wr.cell? ⟨g,j*2+1,none⟩=some v2)/\
  ZQ w ((wr.setCell ⟨g,j*2,none⟩ u1).setCell ⟨g,j*2+1,none⟩ u2) X (.slice A n c) (l.set j x):=by
 obtain⟨Y,h1,h2,h3,h4,h5⟩:=h
 obtain⟨g,rfl⟩:∃g,A=some ⟨g,0,none⟩:=by
  obtain⟨vs,hr,_⟩:=h1.row;rcases hr.2 with ⟨e,h0⟩|⟨g,cap,cur,e,_⟩
  · rw[List.length_map]at h0;omega
  · injection e with e1;exact⟨g,e1⟩
 obtain⟨hnl,hbg,hYg,vs,hR,hP⟩:=h1.open_;rw[List.length_map]at hnl;have hR':=hR.set2 (i:=j) (by omega) u1 u2;have hvl:=hR.len;have htch:Za (fun k=>k=g) wr ((wr.setCell ⟨g,j*2,none⟩ u1).setCell ⟨g,j*2+1,none⟩ u2):=⟨rfl,rfl,rfl,by simp[World.setCell],fun k hk hne=>(Below.heap_setCell _ _ _ _ (by simpa using hne)).trans (Below.heap_setCell _ _ _ _ (by simpa using hne))⟩
 have far:∀{u:Value} {d:List Int},SV w X u d->SV wr Y u d:=fun hs=>hs.keep h5.size (fun k hk hx hy=>by
  rcases h2 k hy with a|a
  · exact hx a
  · omega) (fun k hk _=>h5.block k hk)
 have far2:∀{u:Value} {d:List Int},SV wr Y u d->SV ((wr.setCell ⟨g,j*2,none⟩ u1).setCell ⟨g,j*2+1,none⟩ u2) Y u d:=fun hs=>hs.keep htch.size (fun _ _ h=>h) (fun k hk hy=>htch.block k hk fun e=>hy (by rw[e];exact hYg))
 have hG:=Za8.shut (l:=(l.set j x).map Zaq) (Y:=Y) (base:=w.heap.size) hR' (by simp;omega) hbg hYg (fun a y hy=>by
  rw[List.getElem?_map]at hy;obtain⟨q,hq,rfl⟩:=Option.map_eq_some_iff.1 hy;by_cases e:a=j
  · subst e;rw[List.getElem?_set_self hj]at hq;obtain rfl:x=q:=by simpa using hq
    refine⟨u1,u2,?_,?_,far2 (far s1),far2 (far s2)⟩
    · rw[List.getElem?_set_ne (by omega),List.getElem?_set_self (by omega)]
    · rw[List.getElem?_set_self (by rw[List.length_set];omega)]
  · rw[List.getElem?_set_ne (Ne.symm e)]at hq;refine((hP a (Zaq q) (by rw[List.getElem?_map,hq];rfl)).keep htch hYg).of ?_ ?_
    · rw[List.getElem?_set_ne (by omega),List.getElem?_set_ne (by omega)]
    · rw[List.getElem?_set_ne (by omega),List.getElem?_set_ne (by omega)])
 have hlen:((l.set j x).map Zaq).length=n:=by simp[hnl]
 rw[hlen]at hG;refine⟨g,rfl,hbg,hnl,fun i=>hR.frozen i,⟨_,hR.cell (List.getElem?_eq_getElem (by omega))⟩,⟨_,hR.cell (List.getElem?_eq_getElem (by omega))⟩,⟨Y,hG,h2,h3,fun k hk=>Nat.lt_of_lt_of_le (h4 k hk) htch.size,⟨h5.os,h5.tape,h5.output,Nat.le_trans h5.size htch.size,fun k hk=>(htch.block k (Nat.lt_of_lt_of_le hk h5.size) (by omega)).trans (h5.block k hk)⟩⟩⟩
theorem SPs.back_any{A:Option Addr}{n c j:Nat}(h:SPs w X A n c L)(hj:j<=n):SPs w X (if c=j then A else A.map (·.add (j*2))) (n-j) (c-j) (L.drop j):=by
 by_cases e:j=n
 · subst e
   have:L.drop j = []:=List.drop_eq_nil_of_le (by rw[h.2.1];exact Nat.le_refl _)
   rw[this,Nat.sub_self];exact SPs.nil_ _ _ _ _
 · have hc:¬c=j:=by have:=h.1;omega
   obtain⟨b,off,rfl,_⟩:=h.2.2 (by omega);rw[if_neg hc]
   have:=h.back hj
   rw[show(some (⟨b,off,none⟩:Addr)).map (·.add (j*2))=some ⟨b,off+j*2,none⟩ from congrArg some (Zlt _ _ _)];exact this
def ZgF(w:World)(X:Nat->Prop)(t:Nat)(L':TL)(W:World)(gl:Nat)(v6:Value)(A2:Option Addr)(m c2:Nat):Prop:=
 ∃v7 w7,(Builtin.append_ #[128,128] 128 #[v6,.slice (some ⟨gl,0,none⟩) 1 1]).run prog W=.ok v7 w7/\RowKit.Below w.heap.size w w7/\
  ∃A8 n8 c8 w8,(Builtin.append_ #[128,128] 128 #[v7,.slice A2 m c2]).run prog w7=.ok (.slice A8 n8 c8) w8/\RowKit.Below w.heap.size w w8/\
   w8.frozen? ⟨t,0,none⟩=false/\Z9 (w8.setCell ⟨t,0,none⟩ (.slice A8 n8 c8)) X t L'/\Za (fun k=>k=t) w (w8.setCell ⟨t,0,none⟩ (.slice A8 n8 c8))
theorem ZgF.mk_{w0 W:World}{L1 L2:TL}{gl m c2:Nat}{v6 uk uv:Value}{A2:Option Addr}{x:Txt×List Int}(hb:RowKit.Below w.heap.size w w0)(ht:Z9 w X t L)(hX:∀k,X k->k<w.heap.size)(hT:ZQ w0 W X v6 L1)(hlit:W.heap[gl]?=some (.cells #[uk,uv] 101 (0,0)))
 (sk:SV w X uk (by_ x.1)) (sv:SV w X uv x.2) (hs:SPs w X A2 m c2 L2) (h1:L1.length<=2147483647) (h2:m<=2147483647):ZgF w X t (L1++[x]++L2) W gl v6 A2 m c2:=by
 obtain⟨v7,w7,hr7,hT7,hb7⟩:=hT.pushAt (x:=x) (sk.keep hb.size (fun _ _ h=>h) (fun k hk _=>hb.block k hk)) (sv.keep hb.size (fun _ _ h=>h) (fun k hk _=>hb.block k hk)) hlit (by omega) 128;obtain⟨v8,w8,hr8,hT8,hb8⟩:=hT7.pushL (hs.below hb) (by rw[List.length_append];simp;omega) 128;obtain⟨A8,c8,rfl⟩:=hT8.shape;have hset:=hT8.set (ht.below hb) (fun k hk=>Nat.lt_of_lt_of_le (hX k hk) hb.size);have hb8':=hb.trans (hT8.bel.mono hb.size);refine⟨v7,w7,hr7,hb.trans (hb7.mono hb.size),A8,_,c8,w8,hr8,hb8',?_,hset.1,?_⟩
 · obtain⟨A0,n0,c0,e0,_⟩:=ht;exact frozen_of_row w8 t 0 _ _ ((hb8'.block t (Array.getElem?_eq_some_iff.1 e0).1).trans e0)
 · obtain⟨a1,a2,a3,a4,a5⟩:=hset.2;exact⟨a1.trans hb.os,a2.trans hb.tape,a3.trans hb.output,Nat.le_trans hb.size a4,fun k hk hne=>(a5 k (Nat.lt_of_lt_of_le hk hb.size) hne).trans (hb.block k hk)⟩
theorem Zrb{wd:World}{A1 A2:Option Addr}{L1 L2:TL}{n1 c1 m c2:Nat}{uk uv:Value}{x:Txt×List Int}(hb:RowKit.Below w.heap.size w wd)(ht:Z9 w X t L)(hX:∀k,X k->k<w.heap.size)(h1:SPs w X A1 n1 c1 L1)(hs:SPs w X A2 m c2 L2)
 (sk:SV w X uk (by_ x.1)) (sv:SV w X uv x.2) (hn1:n1<=2147483647) (hm:m<=2147483647) :
 ∃v6 w6,(Builtin.append_ #[128,128] 128 #[.slice none 0 0,.slice A1 n1 c1]).run prog wd.drew=.ok v6 w6/\RowKit.Below w.heap.size w w6/\RowKit.Below w.heap.size w (w6.alloc (.cells #[uk,uv] 101 (0,0)))/\ZgF w X t (L1++[x]++L2) (w6.alloc (.cells #[uk,uv] 101 (0,0))) w6.heap.size v6 A2 m c2:=by
 have hbd:RowKit.Below w.heap.size w wd.drew:=hb.drew;obtain⟨v6,w6,hr6,hT6,hb6⟩:=((ZQ.start hX).below hbd).pushL h1 (by simp;omega) 128;rw[List.nil_append]at hT6
 replace hb6:=hT6.bel
 have hba:=hb6.alloc hb6.size (.cells #[uk,uv] 101 (0,0));exact⟨v6,w6,hr6,hb6,hba,ZgF.mk_ (RowKit.Below.refl _ _) ht hX (hT6.below ((RowKit.Below.refl _ _).alloc (Nat.le_refl _) _)) (heap_alloc_new _ _) sk sv hs (by rw[h1.2.1];exact hn1) hm⟩
theorem Zrc{wd:World}{A1 A2:Option Addr}{L1 L2:TL}{n1 c1 m c2:Nat}{uk uv:Value}{x:Txt×List Int}(hb:RowKit.Below w.heap.size w wd)(ht:Z9 w X t L)(hX:∀k,X k->k<w.heap.size)(h1:SPs w X A1 n1 c1 L1)(hs:SPs w X A2 m c2 L2)
 (sk:SV w X uk (by_ x.1)) (sv:SV w X uv x.2) (hn1:n1<=2147483647) (hm:m<=2147483647) :
 RowKit.Below w.heap.size w (wd.alloc (.cells #[uk,uv] 101 (0,0))).drew/\∃v6 w6,(Builtin.append_ #[128,128] 128 #[.slice none 0 0,.slice A1 n1 c1]).run prog (wd.alloc (.cells #[uk,uv] 101 (0,0))).drew=.ok v6 w6/\RowKit.Below w.heap.size w w6/\ZgF w X t (L1++[x]++L2) w6 wd.heap.size v6 A2 m c2:=by
 have hbd:RowKit.Below w.heap.size w (wd.alloc (.cells #[uk,uv] 101 (0,0))).drew:=(hb.alloc hb.size _).drew;have hlit:(wd.alloc (.cells #[uk,uv] 101 (0,0))).drew.heap[wd.heap.size]?=some (.cells #[uk,uv] 101 (0,0)):=heap_alloc_new wd _;have hlt:wd.heap.size<(wd.alloc (.cells #[uk,uv] 101 (0,0))).drew.heap.size:=(Array.getElem?_eq_some_iff.1 hlit).1;obtain⟨v6,w6,hr6,hT6,hb6⟩:=(ZQ.start (w:=(wd.alloc (.cells #[uk,uv] 101 (0,0))).drew) (fun k hk=>Nat.lt_of_lt_of_le (hX k hk) hbd.size)).pushL (h1.below hbd) (by simp;omega) 128;rw[List.nil_append]at hT6;exact⟨hbd,v6,w6,hr6,hbd.trans (hb6.mono hbd.size),ZgF.mk_ hbd ht hX hT6 ((hb6.block _ hlt).trans hlit) sk sv hs (by rw[h1.2.1];exact hn1) hm⟩
end
theorem Zx{P:Program}{ops:Array Oper}{o:Oper}{a:Act}{w:World}{K:Act->World->Prop}{Q:Exit->Act->World->Prop}{E:Prop}(hgd:o.guard=none)(s x:Operand)(t tn:TypeId)
 (ho:o.op=.call {callee:=.builtin .append,args:=#[s,x],argTypes:=#[t,tn]}) (v u:Value) (hs:a.eval s=v) (hx:a.eval x=u) {v':Value} {w':World}
 (hrun:(Builtin.append_ #[t,tn] o.type #[v,u]).run P w=.ok v' w') (h:K (a.put o.dst v') w') :
 if Region.wanted o (yielded ops a.tmps)=true then Oper.wp P o a w K Q else E:=by
 have hw:Region.wanted o (yielded ops a.tmps)=true:=by simp[Region.wanted,hgd]
 rw[if_pos hw];exact Lib.wp_append_run w s x t tn ho v u hs hx _ _ hrun h
theorem Zbr{F:Nat->Prop}{a b c:World}(h:RowKit.Below a.heap.size a b)(k:Za F b c):Za F a c:=
 ⟨k.os.trans h.os,k.tape.trans h.tape,k.output.trans h.output,Nat.le_trans h.size k.size,fun i hi hF=>(k.block i (Nat.lt_of_lt_of_le hi h.size) hF).trans (h.block i hi)⟩
section
variable{w w':World}{X X' Y:Nat->Prop}{t base:Nat}{L:TL}
theorem ZdZ(h:Z9 w X t L)(hX:∀k,X k->k<w.heap.size)(hN:L.length<=2147483647){A A':Option Addr}{n k B n' k' B':Nat}{l l':List Int}(hr:RB w B A n l)(hB:B<=w.heap.size)(hn:n<=140737488355328)(hr':RB w B' A' n' l')(hB':B'<=w.heap.size)(hn':n'<=140737488355328) :
 Calls prog 185 #[.pointer (some ⟨t,0,none⟩),.slice A n k,.slice A' n' k'] w fun e w'=>e=.returned (.tuple #[])/\Z9 w' X t (Zaw L (tx l) l')/\Za (fun k=>k=t) w w':=by
 obtain⟨uk,w1,hrun1,hs1,hb1⟩:=Zbk (k:=k) hr hB hn 99;obtain⟨uv,w2,hrun2,hs2,hb2⟩:=Zbk (k:=k') (hr'.below (hb1.mono hB')) (Nat.le_trans hB' hb1.size) hn' 99;obtain⟨w3,hw3⟩:∃w3,w3=w2.alloc (.cells #[uk,uv] 101 (0,0)):=⟨_,rfl⟩
 obtain⟨pb,hpb⟩:∃pb,pb=w2.heap.size:=⟨_,rfl⟩
 have hb3:RowKit.Below w2.heap.size w2 w3:=by rw[hw3];exact(RowKit.Below.refl _ _).alloc (Nat.le_refl _) _
 have hbk:w3.heap[pb]?=some (.cells #[uk,uv] 101 (0,0)):=by rw[hw3,hpb];exact heap_alloc_new _ _
 have hpl:pb<w3.heap.size:=by rw[hw3,hpb];simp
 have hb23:=hb2.trans (hb3.mono hb2.size);have hb03:=hb1.trans (hb23.mono hb1.size)
 have sk:SV w3 X uk (by_ (tx l)):=by
  rw[ZpG hr.bytes];exact(hs1.keep hb23.size (fun _ _ h=>h) (fun k hk _=>hb23.block k hk)).far (fun k hk=>hX k hk)
 have sv:SV w3 X uv l':=(hs2.keep hb3.size (fun _ _ h=>h) (fun k hk _=>hb3.block k hk)).far (fun k hk=>Nat.lt_of_lt_of_le (hX k hk) hb1.size);have h3:=h.below hb03;have HT:=hid h3;obtain⟨TA,N,TC,ht,_,hs⟩:=h3;have hc0:w3.cell? ⟨t,0,none⟩=some (.slice TA N TC):=by rw[cell_of_row w3 t 0 _ _ (0,0) ht];rfl
 have hfz:w3.frozen? ⟨t,0,none⟩=false:=frozen_of_row w3 t 0 _ _ ht;have hk0:w3.cell? ⟨pb,0,none⟩=some uk:=by rw[cell_of_row w3 pb 0 _ _ (0,0) hbk];rfl
 have hk1:w3.cell? ⟨pb,1,none⟩=some uv:=by rw[cell_of_row w3 pb 1 _ _ (0,0) hbk];rfl
 have hNL:L.length=N:=hs.2.1;rw[hNL]at hN;have HR:=hid (hr.below (hb03.mono hB));have HS:=hid hs;have HSK:=hid sk;have HSV:=hid sv;have HBK:=hid hbk;have HC:=hid (And.intro hc0 (And.intro HT.out.lt hNL));have HK:=hid (And.intro hk0 (And.intro hk1 hpl));have HFZ:=hid hfz;have HB03:=hid hb03;have HXl:=hid (show ∀k,X k->k<w3.heap.size from fun k hk=>Nat.lt_of_lt_of_le (hX k hk) hb03.size);have hB3:B<=w3.heap.size:=Nat.le_trans hB hb03.size;have HRUN1:=hid hrun1;have HRUN2:=hid hrun2;obtain⟨KA,KN,KC,rfl⟩:=hs1.slice;obtain⟨VA,VN,VC,rfl⟩:=hs2.slice;clear hrun1 hrun2 hs1 hs2 hb1 hb2 hb3 hb23 hbk sk sv hr hr' ht hs hc0 hNL hX hb03 h hk0 hk1 hpl hfz hn hn' hB hB';go_enter func185,ntmps185;have tok1:True:=trivial
 go_wp2_with (first
  | (at_builtin;have _t:=tok1;clear tok1;refine Lib.wpList_append_run _ rfl _ _ _ _ rfl _ _ rfl rfl _ _ HRUN1.out ?_;have tok2:True:=trivial)
  | (at_builtin;have _t:=tok2;clear tok2;refine Lib.wpList_append_run _ rfl _ _ _ _ rfl _ _ rfl rfl _ _ HRUN2.out ?_))
 rw[<-hw3,<-hpb];clear hw3 hpb HRUN1 HRUN2
 go_loopw[7] (fun i wr=>∃j:Nat,j<=N/\i=.int .i64 j/\Hid ((∀(a:Nat) (y:Txt×List Int),a<j->L[a]?=some y->y.1<tx l)/\RowKit.Below w3.heap.size w3 wr)) (fun i _=>N-(intOf i).toNat)
 case atStart=>exact⟨0,Nat.zero_le _,rfl,hid ⟨fun a y h=>absurd h (Nat.not_lt_zero _),RowKit.Below.refl _ _⟩⟩
 case round=>
  obtain⟨j,hj,rfl,HM⟩:=hrel;obtain⟨hno,hb⟩:=HM.out;have c0:=(hb.cell (p:=⟨t,0,none⟩) HC.out.2.1).trans HC.out.1;by_cases hlt:j<N
  · obtain⟨x,hx⟩:∃x,L[j]?=some x:=⟨_,List.getElem?_eq_getElem (by rw[HC.out.2.2];exact hlt)⟩
    have hsp:=HS.out;obtain⟨_,_,hp⟩:=hsp;obtain⟨b,off,rfl,hbl,_,hp⟩:=hp (by omega);obtain⟨u1,u2,c1,c2,s1,s2⟩:=hp j x hx;have c1':=(hb.cell (p:=⟨b,off+j*2,none⟩) hbl).trans c1;obtain⟨A1,n1,k1,rfl,_,_,z1,_⟩:=s1
    have v1:∀q,(convert 99 9 (.slice A1 n1 k1)).run prog (wr.drewN q)=.ok (encStr x.1) (wr.drewN q):=fun q=>by
     have:(convert 99 9 (.slice A1 n1 k1)).run prog (wr.drewN q)=.ok (encStr (tx (by_ x.1))) (wr.drewN q):=(z1.below (ZD hb q)).conv k1
     rwa[ZfJ]at this
    have v2:∀q,(convert 99 9 (.slice A n k)).run prog (wr.drewN q)=.ok (encStr (tx l)) (wr.drewN q):=fun q=>(HR.out.below ((ZD hb q).mono hB3)).conv k
    have hj64:(j:Int)<(N:Int):=by omega
    have HX0:=hid hx;have HNO:=hid hno;have HB:=hid hb;by_cases hlx:x.1<tx l
    · have hq:Op.bytesLess x.1 (tx l)=true:=by rw[bytesLess_eq];exact decide_eq_true hlx
      have HN:=hid (show(∀(a:Nat) (y:Txt×List Int),a<j+1->L[a]?=some y->y.1<tx l)from fun a y ha hy=>by
       rcases Nat.lt_or_ge a j with h|h
       · exact HNO.out a y h hy
       · obtain rfl:a=j:=by omega
         rw[HX0.out]at hy;cases hy
         exact hlx)
      clear hx z1 hb hno hp hlx c1 c2;go_wp2_with fail
      go_quiet (fail)
      go_wp2;go_roundw
      case rel=>exact⟨j+1,by omega,by go_num,hid ⟨HN.out,ZD HB.out _⟩⟩
      case measure=>simp[intOf];omega
    · have hq:Op.bytesLess x.1 (tx l)=false:=by rw[bytesLess_eq];exact decide_eq_false hlx
      by_cases hxe:x.1=tx l
      · have hq2:(x.1 == tx l)=true:=by simpa using hxe
        have HXE:=hid hxe;have HREP:=hid (Zob (v:=l') HNO.out HX0.out hxe);have HJ:=hid (show j<L.length by rw[HC.out.2.2];exact hlt);have HPU:=hid (fun q=>((ZQ.start HXl.out).below (ZD HB.out q)).pushL HS.out (by simp;omega) 128);clear hx z1 hb hno hp c1 c2 hxe hlx;go_wp2_with fail
        go_quiet (fail)
        revert nq
        intro nq1;go_wp2_with fail
        go_quiet (fail)
        obtain⟨v6,w6,hr6,hT6,_⟩:=HPU.out (nq1+nq);rw[List.nil_append]at hT6;obtain⟨A6,c6,rfl⟩:=hT6.shape;have hb6:=hT6.bel;obtain⟨g,rfl,hg,_,hf,⟨y1,hy1⟩,⟨y2,hy2⟩,hR7⟩:=hT6.setAt (j:=j) (x:=(tx l,l')) HJ.out HSK.out HSV.out;have hset:=hR7.set HT.out HXl.out;have p0:=(hb6.cell (p:=⟨pb,0,none⟩) HK.out.2.2).trans HK.out.1;have p1:=(hb6.cell (p:=⟨pb,1,none⟩) HK.out.2.2).trans HK.out.2.1;have f0:=hf (j*2);have f1:(w6.setCell ⟨g,j*2,none⟩ (.slice KA KN KC)).frozen? ⟨g,j*2+1,none⟩=false:=by simpa using hf (j*2+1)
        have ft:=(hR7.bel.frozen (p:=⟨t,0,none⟩) HC.out.2.1).trans HFZ.out;have t0:=(hR7.bel.cell (p:=⟨t,0,none⟩) HC.out.2.1).trans HC.out.1;have HEND:=hid hset;have HR6:=hid hr6;have hj6:(j:Int)<(L.length:Int):=by have:=HJ.out;omega
        have tok1:=True.intro;clear hset hr6 hR7 hT6 hf hb6 hg
        go_wp2_with (at_builtin;have _t:=tok1;clear tok1;refine Lib.wpList_append_run _ rfl _ _ _ _ rfl _ _ rfl rfl _ _ HR6.out ?_)
        (try simp only[Exit.inBlock,Exit.then])
        refine bodyPost_ret (results_none rfl _ _ _) rfl ?_;exact⟨rfl,by rw[HREP.out,<-HC.out.2.2];exact HEND.out.1,Zbr HB03.out (by rw[<-HC.out.2.2];exact HEND.out.2)⟩
      · have hq2:(x.1 == tx l)=false:=by simpa using hxe
        have hgt:tx l<x.1:=by
         rcases tlt_tri x.1 (tx l)with a|a|a
         · exact absurd a hlx
         · exact absurd a hxe
         · exact a
        have HSET:=hid (ZkE (v:=l') (x:=tx l) (j:=j) (by rw[HC.out.2.2];exact hj) HNO.out (fun y hy=>by rw[HX0.out]at hy;cases hy;exact hgt));obtain⟨A2,m2,k2,HA2,hm2,hsb⟩:∃A2 m2 k2,Hid ((if TC=j then(some (⟨b,off,none⟩:Addr))else Option.map (fun a:Addr=>a.add (j*2)) (some (⟨b,off,none⟩:Addr)))=A2/\N-j=m2/\TC-j=k2)/\m2<=2147483647/\SPs w3 X A2 m2 k2 (L.drop j):=⟨_,_,_,hid ⟨rfl,rfl,rfl⟩,by omega,HS.out.back_any (j:=j) hj⟩
        have hsf:=HS.out.front (j:=j) hj;have HIA:=fun(wd:World) (hb:RowKit.Below w3.heap.size w3 wd)=>Zrb (x:=(tx l,l')) hb HT.out HXl.out hsf hsb HSK.out HSV.out (by omega) hm2
        have HIB:=fun(wd:World) (hb:RowKit.Below w3.heap.size w3 wd)=>Zrc (x:=(tx l,l')) hb HT.out HXl.out hsf hsb HSK.out HSV.out (by omega) hm2
        have HSX:=hid (fun(W:World) (hb:RowKit.Below w3.heap.size w3 W)=>And.intro ((hb.cell (p:=⟨t,0,none⟩) HC.out.2.1).trans HC.out.1) (And.intro ((hb.cell (p:=⟨pb,0,none⟩) HK.out.2.2).trans HK.out.1) ((hb.cell (p:=⟨pb,1,none⟩) HK.out.2.2).trans HK.out.2.1)))
        replace HIA:=hid HIA
        replace HIB:=hid HIB
        clear hsb hsf hm2;clear hx z1 hb hno hp c1 c2 hxe hlx hgt;go_wp2_with fail
        go_quiet (fail)
        revert nq
        intro nq1;go_wp2_with fail
        go_quiet (fail)
        go_wp2_with fail;obtain⟨wd,hwd⟩:∃wd,wd=(wr.drewN nq1).drewN nq:=⟨_,rfl⟩
        have HBD:=hid (show RowKit.Below w3.heap.size w3 wd by rw[hwd];exact ZD (ZD HB.out _) _);rw[<-hwd];clear hwd
        replace HIA:=hid (HIA.out wd HBD.out)
        replace HIB:=hid (HIB.out wd HBD.out)
        have hNc:N<=TC:=HS.out.1;have hk0:(0:Int)<=(j:Int):=by omega
        have hkc:(j:Int)<=(TC:Int):=by omega
        have hkn:(j:Int)<=(N:Int):=by omega
        have x1:wd.drew.cell? ⟨t,0,none⟩=some (.slice (some ⟨b,off,none⟩) N TC)/\wd.drew.cell? ⟨pb,0,none⟩=some (.slice KA KN KC)/\wd.drew.cell? ⟨pb,1,none⟩=some (.slice VA VN VC):=HSX.out _ HBD.out.drew;refine wp_region_any (by rfl) ?_;change wpAny _ _ _ _ _ _ _ wd.drew;refine ZaP (S:=fun wz=>wz.cell? ⟨t,0,none⟩=some (.slice (some ⟨b,off,none⟩) N TC)/\wz.cell? ⟨pb,0,none⟩=some (.slice KA KN KC)/\wz.cell? ⟨pb,1,none⟩=some (.slice VA VN VC)) (z:=20) _ _ _ _ ?_;refine Zb (i:=0) (oi:={dst:=some 71,op:=_,type:=_,pos:=_,after:=_,guard:=_}) (v:=.pointer (some ⟨t,0,none⟩)) rfl (by decide) (by kernel_rfl) (by kernel_rfl) (by kernel_rfl) (by kernel_rfl) (fun _ _ _ h=>h) (Or.inl ⟨by rfl,fun wz hS=>?_⟩) x1 ?_
        · obtain⟨y1,y2,y3⟩:=hS
          go_simp
        try simp only[Act.put,List.setIfInBounds_toArray,List.set_cons_zero,List.set_cons_succ]
        refine Zb (i:=1) (oi:={dst:=some 72,op:=_,type:=_,pos:=_,after:=_,guard:=_}) (v:=.pointer (some ⟨t,0,none⟩)) rfl (by decide) (by kernel_rfl) (by kernel_rfl) (by kernel_rfl) (by kernel_rfl) (fun _ _ _ h=>h) (Or.inl ⟨by rfl,fun wz hS=>?_⟩) x1 ?_
        · obtain⟨y1,y2,y3⟩:=hS
          go_simp
        try simp only[Act.put,List.setIfInBounds_toArray,List.set_cons_zero,List.set_cons_succ]
        refine Zb (i:=2) (oi:={dst:=some 73,op:=_,type:=_,pos:=_,after:=_,guard:=_}) (v:=.pointer (some ⟨t,0,none⟩)) rfl (by decide) (by kernel_rfl) (by kernel_rfl) (by kernel_rfl) (by kernel_rfl) (fun _ _ _ h=>h) (Or.inl ⟨by rfl,fun wz hS=>?_⟩) x1 ?_
        · obtain⟨y1,y2,y3⟩:=hS
          go_simp
        try simp only[Act.put,List.setIfInBounds_toArray,List.set_cons_zero,List.set_cons_succ]
        refine Zb (i:=3) (oi:={dst:=some 74,op:=_,type:=_,pos:=_,after:=_,guard:=_}) (v:=.pointer (some ⟨t,0,none⟩)) rfl (by decide) (by kernel_rfl) (by kernel_rfl) (by kernel_rfl) (by kernel_rfl) (fun _ _ _ h=>h) (Or.inl ⟨by rfl,fun wz hS=>?_⟩) x1 ?_
        · obtain⟨y1,y2,y3⟩:=hS
          go_simp
        try simp only[Act.put,List.setIfInBounds_toArray,List.set_cons_zero,List.set_cons_succ]
        refine Zb (i:=4) (oi:={dst:=some 75,op:=_,type:=_,pos:=_,after:=_,guard:=_}) (v:=.slice (some ⟨b,off,none⟩) N TC) rfl (by decide) (by kernel_rfl) (by kernel_rfl) (by kernel_rfl) (by kernel_rfl) (fun _ _ _ h=>h) (Or.inl ⟨by rfl,fun wz hS=>?_⟩) x1 ?_
        · obtain⟨y1,y2,y3⟩:=hS
          go_simp
        try simp only[Act.put,List.setIfInBounds_toArray,List.set_cons_zero,List.set_cons_succ]
        refine Zb (i:=5) (oi:={dst:=some 76,op:=_,type:=_,pos:=_,after:=_,guard:=_}) (v:=.int .i64 ((j:Nat):Int)) rfl (by decide) (by kernel_rfl) (by kernel_rfl) (by kernel_rfl) (by kernel_rfl) (fun _ _ _ h=>h) (Or.inl ⟨by rfl,fun wz hS=>?_⟩) x1 ?_
        · obtain⟨y1,y2,y3⟩:=hS
          go_simp
        try simp only[Act.put,List.setIfInBounds_toArray,List.set_cons_zero,List.set_cons_succ]
        refine Zb (i:=6) (oi:={dst:=some 77,op:=_,type:=_,pos:=_,after:=_,guard:=_}) (v:=.slice (some ⟨b,off,none⟩) j TC) rfl (by decide) (by kernel_rfl) (by kernel_rfl) (by kernel_rfl) (by kernel_rfl) (fun _ _ _ h=>h) (Or.inl ⟨by rfl,fun wz hS=>?_⟩) x1 ?_
        · obtain⟨y1,y2,y3⟩:=hS
          go_simp
          all_goals first|omega|simp[Addr.add]
        try simp only[Act.put,List.setIfInBounds_toArray,List.set_cons_zero,List.set_cons_succ]
        refine Zb (i:=8) (oi:={dst:=some 79,op:=_,type:=_,pos:=_,after:=_,guard:=_}) (v:=.agg #[.slice KA KN KC,.slice VA VN VC]) rfl (by decide) (by kernel_rfl) (by kernel_rfl) (by kernel_rfl) (by kernel_rfl) (fun _ _ _ h=>h) (Or.inl ⟨by rfl,fun wz hS=>?_⟩) x1 ?_
        · obtain⟨y1,y2,y3⟩:=hS
          go_simp
        try simp only[Act.put,List.setIfInBounds_toArray,List.set_cons_zero,List.set_cons_succ]
        refine Zb (i:=11) (oi:={dst:=some 82,op:=_,type:=_,pos:=_,after:=_,guard:=_}) (v:=.pointer (some ⟨t,0,none⟩)) rfl (by decide) (by kernel_rfl) (by kernel_rfl) (by kernel_rfl) (by kernel_rfl) (fun _ _ _ h=>h) (Or.inl ⟨by rfl,fun wz hS=>?_⟩) x1 ?_
        · obtain⟨y1,y2,y3⟩:=hS
          go_simp
        try simp only[Act.put,List.setIfInBounds_toArray,List.set_cons_zero,List.set_cons_succ]
        refine Zb (i:=12) (oi:={dst:=some 83,op:=_,type:=_,pos:=_,after:=_,guard:=_}) (v:=.pointer (some ⟨t,0,none⟩)) rfl (by decide) (by kernel_rfl) (by kernel_rfl) (by kernel_rfl) (by kernel_rfl) (fun _ _ _ h=>h) (Or.inl ⟨by rfl,fun wz hS=>?_⟩) x1 ?_
        · obtain⟨y1,y2,y3⟩:=hS
          go_simp
        try simp only[Act.put,List.setIfInBounds_toArray,List.set_cons_zero,List.set_cons_succ]
        refine Zb (i:=13) (oi:={dst:=some 84,op:=_,type:=_,pos:=_,after:=_,guard:=_}) (v:=.pointer (some ⟨t,0,none⟩)) rfl (by decide) (by kernel_rfl) (by kernel_rfl) (by kernel_rfl) (by kernel_rfl) (fun _ _ _ h=>h) (Or.inl ⟨by rfl,fun wz hS=>?_⟩) x1 ?_
        · obtain⟨y1,y2,y3⟩:=hS
          go_simp
        try simp only[Act.put,List.setIfInBounds_toArray,List.set_cons_zero,List.set_cons_succ]
        refine Zb (i:=14) (oi:={dst:=some 85,op:=_,type:=_,pos:=_,after:=_,guard:=_}) (v:=.slice (some ⟨b,off,none⟩) N TC) rfl (by decide) (by kernel_rfl) (by kernel_rfl) (by kernel_rfl) (by kernel_rfl) (fun _ _ _ h=>h) (Or.inl ⟨by rfl,fun wz hS=>?_⟩) x1 ?_
        · obtain⟨y1,y2,y3⟩:=hS
          go_simp
        try simp only[Act.put,List.setIfInBounds_toArray,List.set_cons_zero,List.set_cons_succ]
        refine Zb (i:=15) (oi:={dst:=some 86,op:=_,type:=_,pos:=_,after:=_,guard:=_}) (v:=.int .i64 ((j:Nat):Int)) rfl (by decide) (by kernel_rfl) (by kernel_rfl) (by kernel_rfl) (by kernel_rfl) (fun _ _ _ h=>h) (Or.inl ⟨by rfl,fun wz hS=>?_⟩) x1 ?_
        · obtain⟨y1,y2,y3⟩:=hS
          go_simp
        try simp only[Act.put,List.setIfInBounds_toArray,List.set_cons_zero,List.set_cons_succ]
        refine Zb (i:=16) (oi:={dst:=some 87,op:=_,type:=_,pos:=_,after:=_,guard:=_}) (v:=.slice A2 m2 k2) rfl (by decide) (by kernel_rfl) (by kernel_rfl) (by kernel_rfl) (by kernel_rfl) (fun _ _ _ h=>h) (Or.inl ⟨by rfl,fun wz hS=>?_⟩) x1 ?_
        · obtain⟨y1,y2,y3⟩:=hS;obtain⟨e1,e2,e3⟩:=HA2.out;subst e1 e2 e3
          go_simp
          all_goals first|omega|simp[Addr.add]
        try simp only[Act.put,List.setIfInBounds_toArray,List.set_cons_zero,List.set_cons_succ]
        refine ZcA (j:=7) (k:=9) (o:={dst:=some 78,op:=_,type:=_,pos:=_,after:=_,guard:=none}) (o':={dst:=some 80,op:=_,type:=_,pos:=_,after:=_,guard:=none}) rfl rfl (by kernel_rfl) (by decide) (by decide) ?_ ?_
        · intro K1 hK1;obtain⟨v6,w6,hr6,hb6,hba,hE⟩:=HIA.out;refine Zx (by rfl) (.const (.slice none 0 0)) (.tmp 77) _ _ (by rfl) _ _ (by rfl) (by rfl) hr6 ?_;refine hK1 _ _ (HSX.out _ hb6) ?_;clear hK1 K1 hr6
          try simp only[Act.put,List.setIfInBounds_toArray,List.set_cons_zero,List.set_cons_succ]
          refine Zl (j:=9) (o:={dst:=some 80,op:=_,type:=_,pos:=_,after:=_,guard:=none}) rfl (by kernel_rfl) (by decide) ?_;intro K1 hK1;rw[if_pos (by rfl)]
          go_simp
          refine hK1 _ _ (HSX.out _ hba) ?_;clear hK1 K1;generalize w6.alloc (.cells #[.slice KA KN KC,.slice VA VN VC] 101 (0,0))=W at hba hE ⊢;generalize w6.heap.size=gl at hE ⊢
          try simp only[Act.put,List.setIfInBounds_toArray,List.set_cons_zero,List.set_cons_succ]
          obtain⟨v7,w7,hr7,hb7,A8,n8,c8,w8,hr8,hb8,hf8,ht8,hto8⟩:=hE;refine Zl (j:=10) (o:={dst:=some 81,op:=_,type:=_,pos:=_,after:=_,guard:=none}) rfl (by kernel_rfl) (by decide) ?_;intro K1 hK1;refine Zx (by rfl) (.tmp 78) (.tmp 80) _ _ (by rfl) _ _ (by rfl) (by rfl) hr7 ?_;refine hK1 _ _ (HSX.out _ hb7) ?_;clear hK1 K1 hr7
          try simp only[Act.put,List.setIfInBounds_toArray,List.set_cons_zero,List.set_cons_succ]
          refine Zl (j:=17) (o:={dst:=some 88,op:=_,type:=_,pos:=_,after:=_,guard:=none}) rfl (by kernel_rfl) (by decide) ?_;intro K1 hK1;refine Zx (by rfl) (.tmp 81) (.tmp 87) _ _ (by rfl) _ _ (by rfl) (by rfl) hr8 ?_;have y8:=HSX.out _ hb8;refine hK1 _ _ y8 ?_;clear hK1 K1 hr8
          try simp only[Act.put,List.setIfInBounds_toArray,List.set_cons_zero,List.set_cons_succ]
          refine Zl (j:=18) (o:={dst:=some 89,op:=_,type:=_,pos:=_,after:=_,guard:=_}) rfl (by kernel_rfl) (by decide) ?_;intro K1 hK1;rw[if_pos (by rfl)]
          go_simp
          refine hK1 _ _ y8 ?_;clear hK1 K1
          try simp only[Act.put,List.setIfInBounds_toArray,List.set_cons_zero,List.set_cons_succ]
          refine Zl (j:=19) (o:={dst:=some 90,op:=_,type:=_,pos:=_,after:=_,guard:=_}) rfl (by kernel_rfl) (by decide) ?_;intro K1 hK1;rw[if_pos (by rfl)]
          go_simp
          refine hK1 _ _ y8 ?_;clear hK1 K1
          try simp only[Act.put,List.setIfInBounds_toArray,List.set_cons_zero,List.set_cons_succ]
          obtain⟨y1,y2,y3⟩:=y8;refine Z4 (o:={dst:=none,op:=_,type:=_,pos:=_,after:=_,guard:=_}) rfl (by kernel_rfl) ?_;intro K1 hK1;rw[if_pos (by rfl)]
          go_simp
          refine hK1 _ _ ?_;clear hK1 K1;refine wpAny_done (by kernel_rfl) ?_ _;have HEND:=hid (And.intro ht8 (Zbr HB03.out hto8));clear ht8 hto8 hf8 y1 y2 y3 x1;go_wp2
          go_end0
          exact⟨rfl,by rw[HSET.out];exact HEND.out.1,HEND.out.2⟩
        · intro K1 hK1;obtain⟨hbd,v6,w6,hr6,hb6,hE⟩:=HIB.out;rw[if_pos (by rfl)]
          go_simp
          refine hK1 _ _ (HSX.out _ hbd) ?_;clear hK1 K1
          try simp only[Act.put,List.setIfInBounds_toArray,List.set_cons_zero,List.set_cons_succ]
          refine Zl (j:=7) (o:={dst:=some 78,op:=_,type:=_,pos:=_,after:=_,guard:=none}) rfl (by kernel_rfl) (by decide) ?_;intro K1 hK1;refine Zx (by rfl) (.const (.slice none 0 0)) (.tmp 77) _ _ (by rfl) _ _ (by rfl) (by rfl) hr6 ?_;refine hK1 _ _ (HSX.out _ hb6) ?_;rw[Array.setIfInBounds_comm _ _ (show(9:Nat)≠7 by decide)];clear hK1 K1 hr6 hbd;generalize w6=W at hE ⊢;generalize wd.heap.size=gl at hE ⊢
          try simp only[Act.put,List.setIfInBounds_toArray,List.set_cons_zero,List.set_cons_succ]
          obtain⟨v7,w7,hr7,hb7,A8,n8,c8,w8,hr8,hb8,hf8,ht8,hto8⟩:=hE;refine Zl (j:=10) (o:={dst:=some 81,op:=_,type:=_,pos:=_,after:=_,guard:=none}) rfl (by kernel_rfl) (by decide) ?_;intro K1 hK1;refine Zx (by rfl) (.tmp 78) (.tmp 80) _ _ (by rfl) _ _ (by rfl) (by rfl) hr7 ?_;refine hK1 _ _ (HSX.out _ hb7) ?_;clear hK1 K1 hr7
          try simp only[Act.put,List.setIfInBounds_toArray,List.set_cons_zero,List.set_cons_succ]
          refine Zl (j:=17) (o:={dst:=some 88,op:=_,type:=_,pos:=_,after:=_,guard:=none}) rfl (by kernel_rfl) (by decide) ?_;intro K1 hK1;refine Zx (by rfl) (.tmp 81) (.tmp 87) _ _ (by rfl) _ _ (by rfl) (by rfl) hr8 ?_;have y8:=HSX.out _ hb8;refine hK1 _ _ y8 ?_;clear hK1 K1 hr8
          try simp only[Act.put,List.setIfInBounds_toArray,List.set_cons_zero,List.set_cons_succ]
          refine Zl (j:=18) (o:={dst:=some 89,op:=_,type:=_,pos:=_,after:=_,guard:=_}) rfl (by kernel_rfl) (by decide) ?_;intro K1 hK1;rw[if_pos (by rfl)]
          go_simp
          refine hK1 _ _ y8 ?_;clear hK1 K1
          try simp only[Act.put,List.setIfInBounds_toArray,List.set_cons_zero,List.set_cons_succ]
          refine Zl (j:=19) (o:={dst:=some 90,op:=_,type:=_,pos:=_,after:=_,guard:=_}) rfl (by kernel_rfl) (by decide) ?_;intro K1 hK1;rw[if_pos (by rfl)]
          go_simp
          refine hK1 _ _ y8 ?_;clear hK1 K1
          try simp only[Act.put,List.setIfInBounds_toArray,List.set_cons_zero,List.set_cons_succ]
          obtain⟨y1,y2,y3⟩:=y8;refine Z4 (o:={dst:=none,op:=_,type:=_,pos:=_,after:=_,guard:=_}) rfl (by kernel_rfl) ?_;intro K1 hK1;rw[if_pos (by rfl)]
          go_simp
          refine hK1 _ _ ?_;clear hK1 K1;refine wpAny_done (by kernel_rfl) ?_ _;have HEND:=hid (And.intro ht8 (Zbr HB03.out hto8));clear ht8 hto8 hf8 y1 y2 y3 x1;go_wp2
          go_end0
          exact⟨rfl,by rw[HSET.out];exact HEND.out.1,HEND.out.2⟩
  · obtain rfl:j=N:=by omega
    have hjn:¬(j:Int)<(j:Int):=by omega
    have HNO:=hid hno;have HB:=hid hb;have HSET:=hid (ZkE (v:=l') (x:=tx l) (j:=j) (by rw[HC.out.2.2];exact Nat.le_refl _) HNO.out (fun y hy=>by have:=(List.getElem?_eq_some_iff.1 hy).1;have h9:=HC.out.2.2;omega));obtain⟨A2,m2,k2,HA2,hm2,hsb⟩:∃A2 m2 k2,Hid ((if TC=j then TA else Option.map (fun a:Addr=>a.add (j*2)) TA)=A2/\j-j=m2/\TC-j=k2)/\m2<=2147483647/\SPs w3 X A2 m2 k2 (L.drop j):=⟨_,_,_,hid ⟨rfl,rfl,rfl⟩,by omega,HS.out.back_any (j:=j) hj⟩
    have hsf:=HS.out.front (j:=j) hj;have HIA:=fun(wd:World) (hb:RowKit.Below w3.heap.size w3 wd)=>Zrb (x:=(tx l,l')) hb HT.out HXl.out hsf hsb HSK.out HSV.out (by omega) hm2
    have HIB:=fun(wd:World) (hb:RowKit.Below w3.heap.size w3 wd)=>Zrc (x:=(tx l,l')) hb HT.out HXl.out hsf hsb HSK.out HSV.out (by omega) hm2
    have HSX:=hid (fun(W:World) (hb:RowKit.Below w3.heap.size w3 W)=>And.intro ((hb.cell (p:=⟨t,0,none⟩) HC.out.2.1).trans HC.out.1) (And.intro ((hb.cell (p:=⟨pb,0,none⟩) HK.out.2.2).trans HK.out.1) ((hb.cell (p:=⟨pb,1,none⟩) HK.out.2.2).trans HK.out.2.1)))
    replace HIA:=hid HIA
    replace HIB:=hid HIB
    clear hsb hsf hm2;clear hno hb;go_wp2_with fail
    go_quiet (fail)
    revert nq
    intro nq1;go_wp2_with fail
    go_quiet (fail)
    go_wp2_with fail;obtain⟨wd,hwd⟩:∃wd,wd=(wr.drewN nq1).drewN nq:=⟨_,rfl⟩
    have HBD:=hid (show RowKit.Below w3.heap.size w3 wd by rw[hwd];exact ZD (ZD HB.out _) _);rw[<-hwd];clear hwd
    replace HIA:=hid (HIA.out wd HBD.out)
    replace HIB:=hid (HIB.out wd HBD.out)
    have hNc:j<=TC:=HS.out.1;have hk0:(0:Int)<=(j:Int):=by omega
    have hkc:(j:Int)<=(TC:Int):=by omega
    have hkn:(j:Int)<=(j:Int):=by omega
    have x1:wd.drew.cell? ⟨t,0,none⟩=some (.slice TA j TC)/\wd.drew.cell? ⟨pb,0,none⟩=some (.slice KA KN KC)/\wd.drew.cell? ⟨pb,1,none⟩=some (.slice VA VN VC):=HSX.out _ HBD.out.drew;refine wp_region_any (by rfl) ?_;change wpAny _ _ _ _ _ _ _ wd.drew;refine ZaP (S:=fun wz=>wz.cell? ⟨t,0,none⟩=some (.slice TA j TC)/\wz.cell? ⟨pb,0,none⟩=some (.slice KA KN KC)/\wz.cell? ⟨pb,1,none⟩=some (.slice VA VN VC)) (z:=20) _ _ _ _ ?_;refine Zb (i:=0) (oi:={dst:=some 71,op:=_,type:=_,pos:=_,after:=_,guard:=_}) (v:=.pointer (some ⟨t,0,none⟩)) rfl (by decide) (by kernel_rfl) (by kernel_rfl) (by kernel_rfl) (by kernel_rfl) (fun _ _ _ h=>h) (Or.inl ⟨by rfl,fun wz hS=>?_⟩) x1 ?_
    · obtain⟨y1,y2,y3⟩:=hS
      go_simp
    try simp only[Act.put,List.setIfInBounds_toArray,List.set_cons_zero,List.set_cons_succ]
    refine Zb (i:=1) (oi:={dst:=some 72,op:=_,type:=_,pos:=_,after:=_,guard:=_}) (v:=.pointer (some ⟨t,0,none⟩)) rfl (by decide) (by kernel_rfl) (by kernel_rfl) (by kernel_rfl) (by kernel_rfl) (fun _ _ _ h=>h) (Or.inl ⟨by rfl,fun wz hS=>?_⟩) x1 ?_
    · obtain⟨y1,y2,y3⟩:=hS
      go_simp
    try simp only[Act.put,List.setIfInBounds_toArray,List.set_cons_zero,List.set_cons_succ]
    refine Zb (i:=2) (oi:={dst:=some 73,op:=_,type:=_,pos:=_,after:=_,guard:=_}) (v:=.pointer (some ⟨t,0,none⟩)) rfl (by decide) (by kernel_rfl) (by kernel_rfl) (by kernel_rfl) (by kernel_rfl) (fun _ _ _ h=>h) (Or.inl ⟨by rfl,fun wz hS=>?_⟩) x1 ?_
    · obtain⟨y1,y2,y3⟩:=hS
      go_simp
    try simp only[Act.put,List.setIfInBounds_toArray,List.set_cons_zero,List.set_cons_succ]
    refine Zb (i:=3) (oi:={dst:=some 74,op:=_,type:=_,pos:=_,after:=_,guard:=_}) (v:=.pointer (some ⟨t,0,none⟩)) rfl (by decide) (by kernel_rfl) (by kernel_rfl) (by kernel_rfl) (by kernel_rfl) (fun _ _ _ h=>h) (Or.inl ⟨by rfl,fun wz hS=>?_⟩) x1 ?_
    · obtain⟨y1,y2,y3⟩:=hS
      go_simp
    try simp only[Act.put,List.setIfInBounds_toArray,List.set_cons_zero,List.set_cons_succ]
    refine Zb (i:=4) (oi:={dst:=some 75,op:=_,type:=_,pos:=_,after:=_,guard:=_}) (v:=.slice TA j TC) rfl (by decide) (by kernel_rfl) (by kernel_rfl) (by kernel_rfl) (by kernel_rfl) (fun _ _ _ h=>h) (Or.inl ⟨by rfl,fun wz hS=>?_⟩) x1 ?_
    · obtain⟨y1,y2,y3⟩:=hS
      go_simp
    try simp only[Act.put,List.setIfInBounds_toArray,List.set_cons_zero,List.set_cons_succ]
    refine Zb (i:=5) (oi:={dst:=some 76,op:=_,type:=_,pos:=_,after:=_,guard:=_}) (v:=.int .i64 ((j:Nat):Int)) rfl (by decide) (by kernel_rfl) (by kernel_rfl) (by kernel_rfl) (by kernel_rfl) (fun _ _ _ h=>h) (Or.inl ⟨by rfl,fun wz hS=>?_⟩) x1 ?_
    · obtain⟨y1,y2,y3⟩:=hS
      go_simp
    try simp only[Act.put,List.setIfInBounds_toArray,List.set_cons_zero,List.set_cons_succ]
    refine Zb (i:=6) (oi:={dst:=some 77,op:=_,type:=_,pos:=_,after:=_,guard:=_}) (v:=.slice TA j TC) rfl (by decide) (by kernel_rfl) (by kernel_rfl) (by kernel_rfl) (by kernel_rfl) (fun _ _ _ h=>h) (Or.inl ⟨by rfl,fun wz hS=>?_⟩) x1 ?_
    · obtain⟨y1,y2,y3⟩:=hS
      go_simp
      all_goals first|omega|simp[Addr.add]
    try simp only[Act.put,List.setIfInBounds_toArray,List.set_cons_zero,List.set_cons_succ]
    refine Zb (i:=8) (oi:={dst:=some 79,op:=_,type:=_,pos:=_,after:=_,guard:=_}) (v:=.agg #[.slice KA KN KC,.slice VA VN VC]) rfl (by decide) (by kernel_rfl) (by kernel_rfl) (by kernel_rfl) (by kernel_rfl) (fun _ _ _ h=>h) (Or.inl ⟨by rfl,fun wz hS=>?_⟩) x1 ?_
    · obtain⟨y1,y2,y3⟩:=hS
      go_simp
    try simp only[Act.put,List.setIfInBounds_toArray,List.set_cons_zero,List.set_cons_succ]
    refine Zb (i:=11) (oi:={dst:=some 82,op:=_,type:=_,pos:=_,after:=_,guard:=_}) (v:=.pointer (some ⟨t,0,none⟩)) rfl (by decide) (by kernel_rfl) (by kernel_rfl) (by kernel_rfl) (by kernel_rfl) (fun _ _ _ h=>h) (Or.inl ⟨by rfl,fun wz hS=>?_⟩) x1 ?_
    · obtain⟨y1,y2,y3⟩:=hS
      go_simp
    try simp only[Act.put,List.setIfInBounds_toArray,List.set_cons_zero,List.set_cons_succ]
    refine Zb (i:=12) (oi:={dst:=some 83,op:=_,type:=_,pos:=_,after:=_,guard:=_}) (v:=.pointer (some ⟨t,0,none⟩)) rfl (by decide) (by kernel_rfl) (by kernel_rfl) (by kernel_rfl) (by kernel_rfl) (fun _ _ _ h=>h) (Or.inl ⟨by rfl,fun wz hS=>?_⟩) x1 ?_
    · obtain⟨y1,y2,y3⟩:=hS
      go_simp
    try simp only[Act.put,List.setIfInBounds_toArray,List.set_cons_zero,List.set_cons_succ]
    refine Zb (i:=13) (oi:={dst:=some 84,op:=_,type:=_,pos:=_,after:=_,guard:=_}) (v:=.pointer (some ⟨t,0,none⟩)) rfl (by decide) (by kernel_rfl) (by kernel_rfl) (by kernel_rfl) (by kernel_rfl) (fun _ _ _ h=>h) (Or.inl ⟨by rfl,fun wz hS=>?_⟩) x1 ?_
    · obtain⟨y1,y2,y3⟩:=hS
      go_simp
    try simp only[Act.put,List.setIfInBounds_toArray,List.set_cons_zero,List.set_cons_succ]
    refine Zb (i:=14) (oi:={dst:=some 85,op:=_,type:=_,pos:=_,after:=_,guard:=_}) (v:=.slice TA j TC) rfl (by decide) (by kernel_rfl) (by kernel_rfl) (by kernel_rfl) (by kernel_rfl) (fun _ _ _ h=>h) (Or.inl ⟨by rfl,fun wz hS=>?_⟩) x1 ?_
    · obtain⟨y1,y2,y3⟩:=hS
      go_simp
    try simp only[Act.put,List.setIfInBounds_toArray,List.set_cons_zero,List.set_cons_succ]
    refine Zb (i:=15) (oi:={dst:=some 86,op:=_,type:=_,pos:=_,after:=_,guard:=_}) (v:=.int .i64 ((j:Nat):Int)) rfl (by decide) (by kernel_rfl) (by kernel_rfl) (by kernel_rfl) (by kernel_rfl) (fun _ _ _ h=>h) (Or.inl ⟨by rfl,fun wz hS=>?_⟩) x1 ?_
    · obtain⟨y1,y2,y3⟩:=hS
      go_simp
    try simp only[Act.put,List.setIfInBounds_toArray,List.set_cons_zero,List.set_cons_succ]
    refine Zb (i:=16) (oi:={dst:=some 87,op:=_,type:=_,pos:=_,after:=_,guard:=_}) (v:=.slice A2 m2 k2) rfl (by decide) (by kernel_rfl) (by kernel_rfl) (by kernel_rfl) (by kernel_rfl) (fun _ _ _ h=>h) (Or.inl ⟨by rfl,fun wz hS=>?_⟩) x1 ?_
    · obtain⟨y1,y2,y3⟩:=hS;obtain⟨e1,e2,e3⟩:=HA2.out;subst e1 e2 e3
      go_simp
      all_goals first|omega|simp[Addr.add]
    try simp only[Act.put,List.setIfInBounds_toArray,List.set_cons_zero,List.set_cons_succ]
    refine ZcA (j:=7) (k:=9) (o:={dst:=some 78,op:=_,type:=_,pos:=_,after:=_,guard:=none}) (o':={dst:=some 80,op:=_,type:=_,pos:=_,after:=_,guard:=none}) rfl rfl (by kernel_rfl) (by decide) (by decide) ?_ ?_
    · intro K1 hK1;obtain⟨v6,w6,hr6,hb6,hba,hE⟩:=HIA.out;refine Zx (by rfl) (.const (.slice none 0 0)) (.tmp 77) _ _ (by rfl) _ _ (by rfl) (by rfl) hr6 ?_;refine hK1 _ _ (HSX.out _ hb6) ?_;clear hK1 K1 hr6
      try simp only[Act.put,List.setIfInBounds_toArray,List.set_cons_zero,List.set_cons_succ]
      refine Zl (j:=9) (o:={dst:=some 80,op:=_,type:=_,pos:=_,after:=_,guard:=none}) rfl (by kernel_rfl) (by decide) ?_;intro K1 hK1;rw[if_pos (by rfl)]
      go_simp
      refine hK1 _ _ (HSX.out _ hba) ?_;clear hK1 K1;generalize w6.alloc (.cells #[.slice KA KN KC,.slice VA VN VC] 101 (0,0))=W at hba hE ⊢;generalize w6.heap.size=gl at hE ⊢
      try simp only[Act.put,List.setIfInBounds_toArray,List.set_cons_zero,List.set_cons_succ]
      obtain⟨v7,w7,hr7,hb7,A8,n8,c8,w8,hr8,hb8,hf8,ht8,hto8⟩:=hE;refine Zl (j:=10) (o:={dst:=some 81,op:=_,type:=_,pos:=_,after:=_,guard:=none}) rfl (by kernel_rfl) (by decide) ?_;intro K1 hK1;refine Zx (by rfl) (.tmp 78) (.tmp 80) _ _ (by rfl) _ _ (by rfl) (by rfl) hr7 ?_;refine hK1 _ _ (HSX.out _ hb7) ?_;clear hK1 K1 hr7
      try simp only[Act.put,List.setIfInBounds_toArray,List.set_cons_zero,List.set_cons_succ]
      refine Zl (j:=17) (o:={dst:=some 88,op:=_,type:=_,pos:=_,after:=_,guard:=none}) rfl (by kernel_rfl) (by decide) ?_;intro K1 hK1;refine Zx (by rfl) (.tmp 81) (.tmp 87) _ _ (by rfl) _ _ (by rfl) (by rfl) hr8 ?_;have y8:=HSX.out _ hb8;refine hK1 _ _ y8 ?_;clear hK1 K1 hr8
      try simp only[Act.put,List.setIfInBounds_toArray,List.set_cons_zero,List.set_cons_succ]
      refine Zl (j:=18) (o:={dst:=some 89,op:=_,type:=_,pos:=_,after:=_,guard:=_}) rfl (by kernel_rfl) (by decide) ?_;intro K1 hK1;rw[if_pos (by rfl)]
      go_simp
      refine hK1 _ _ y8 ?_;clear hK1 K1
      try simp only[Act.put,List.setIfInBounds_toArray,List.set_cons_zero,List.set_cons_succ]
      refine Zl (j:=19) (o:={dst:=some 90,op:=_,type:=_,pos:=_,after:=_,guard:=_}) rfl (by kernel_rfl) (by decide) ?_;intro K1 hK1;rw[if_pos (by rfl)]
      go_simp
      refine hK1 _ _ y8 ?_;clear hK1 K1
      try simp only[Act.put,List.setIfInBounds_toArray,List.set_cons_zero,List.set_cons_succ]
      obtain⟨y1,y2,y3⟩:=y8;refine Z4 (o:={dst:=none,op:=_,type:=_,pos:=_,after:=_,guard:=_}) rfl (by kernel_rfl) ?_;intro K1 hK1;rw[if_pos (by rfl)]
      go_simp
      refine hK1 _ _ ?_;clear hK1 K1;refine wpAny_done (by kernel_rfl) ?_ _;have HEND:=hid (And.intro ht8 (Zbr HB03.out hto8));clear ht8 hto8 hf8 y1 y2 y3 x1;go_wp2
      go_end0
      exact⟨rfl,by rw[HSET.out];exact HEND.out.1,HEND.out.2⟩
    · intro K1 hK1;obtain⟨hbd,v6,w6,hr6,hb6,hE⟩:=HIB.out;rw[if_pos (by rfl)]
      go_simp
      refine hK1 _ _ (HSX.out _ hbd) ?_;clear hK1 K1
      try simp only[Act.put,List.setIfInBounds_toArray,List.set_cons_zero,List.set_cons_succ]
      refine Zl (j:=7) (o:={dst:=some 78,op:=_,type:=_,pos:=_,after:=_,guard:=none}) rfl (by kernel_rfl) (by decide) ?_;intro K1 hK1;refine Zx (by rfl) (.const (.slice none 0 0)) (.tmp 77) _ _ (by rfl) _ _ (by rfl) (by rfl) hr6 ?_;refine hK1 _ _ (HSX.out _ hb6) ?_;rw[Array.setIfInBounds_comm _ _ (show(9:Nat)≠7 by decide)];clear hK1 K1 hr6 hbd;generalize w6=W at hE ⊢;generalize wd.heap.size=gl at hE ⊢
      try simp only[Act.put,List.setIfInBounds_toArray,List.set_cons_zero,List.set_cons_succ]
      obtain⟨v7,w7,hr7,hb7,A8,n8,c8,w8,hr8,hb8,hf8,ht8,hto8⟩:=hE;refine Zl (j:=10) (o:={dst:=some 81,op:=_,type:=_,pos:=_,after:=_,guard:=none}) rfl (by kernel_rfl) (by decide) ?_;intro K1 hK1;refine Zx (by rfl) (.tmp 78) (.tmp 80) _ _ (by rfl) _ _ (by rfl) (by rfl) hr7 ?_;refine hK1 _ _ (HSX.out _ hb7) ?_;clear hK1 K1 hr7
      try simp only[Act.put,List.setIfInBounds_toArray,List.set_cons_zero,List.set_cons_succ]
      refine Zl (j:=17) (o:={dst:=some 88,op:=_,type:=_,pos:=_,after:=_,guard:=none}) rfl (by kernel_rfl) (by decide) ?_;intro K1 hK1;refine Zx (by rfl) (.tmp 81) (.tmp 87) _ _ (by rfl) _ _ (by rfl) (by rfl) hr8 ?_;have y8:=HSX.out _ hb8;refine hK1 _ _ y8 ?_;clear hK1 K1 hr8
      try simp only[Act.put,List.setIfInBounds_toArray,List.set_cons_zero,List.set_cons_succ]
      refine Zl (j:=18) (o:={dst:=some 89,op:=_,type:=_,pos:=_,after:=_,guard:=_}) rfl (by kernel_rfl) (by decide) ?_;intro K1 hK1;rw[if_pos (by rfl)]
      go_simp
      refine hK1 _ _ y8 ?_;clear hK1 K1
      try simp only[Act.put,List.setIfInBounds_toArray,List.set_cons_zero,List.set_cons_succ]
      refine Zl (j:=19) (o:={dst:=some 90,op:=_,type:=_,pos:=_,after:=_,guard:=_}) rfl (by kernel_rfl) (by decide) ?_;intro K1 hK1;rw[if_pos (by rfl)]
      go_simp
      refine hK1 _ _ y8 ?_;clear hK1 K1
      try simp only[Act.put,List.setIfInBounds_toArray,List.set_cons_zero,List.set_cons_succ]
      obtain⟨y1,y2,y3⟩:=y8;refine Z4 (o:={dst:=none,op:=_,type:=_,pos:=_,after:=_,guard:=_}) rfl (by kernel_rfl) ?_;intro K1 hK1;rw[if_pos (by rfl)]
      go_simp
      refine hK1 _ _ ?_;clear hK1 K1;refine wpAny_done (by kernel_rfl) ?_ _;have HEND:=hid (And.intro ht8 (Zbr HB03.out hto8));clear ht8 hto8 hf8 y1 y2 y3 x1;go_wp2
      go_end0
      exact⟨rfl,by rw[HSET.out];exact HEND.out.1,HEND.out.2⟩
end
end Go.Proofs.YtiknkbpojmgbhaaGreat
