/- LinQ, LinR, LinS, ItfR. Conditions: in each theorem. -/
import Derived.Test.YtiknkbpojmgbhaaGreatPreD
import Derived.Test.YtiknkbpojmgbhaaGreatAnyZ
import Derived.BigQuiet
import Derived.Lib.AppendZeros
set_option maxHeartbeats 6400000
set_option maxRecDepth 100000
set_option linter.unusedVariables false
open Go.Proofs.Tryz
open Go.Lib (hid)
namespace Go.Proofs.YtiknkbpojmgbhaaGreat
open Go.RowKit Go.Maps
theorem Zho:∀{L:FL} {j:Nat} {f a:Int},j<=L.length->(∀(i:Nat) (y:Int×Int),i<j->L[i]?=some y->y.1<f)->(∀y,L[j]?=some y->f<y.1)->ZeM L f a=L.take j++[(f,a)]++L.drop j
 | [],j,f,a,hj,_,_=>by
  obtain rfl:j=0:=by simpa using hj
  rfl
 | p::L,0,f,a,_,_,h=>by
  have:=h p rfl
  unfold ZeM;rw[if_neg (by omega),if_neg (by omega)];rfl
 | p::L,j+1,f,a,hj,h1,h2=>by
  unfold ZeM;rw[if_pos (h1 0 p (by omega) rfl),Zho (j:=j) (by simpa using hj) (fun i y hi hy=>h1 (i+1) y (by omega) (by simpa using hy)) (fun y hy=>h2 y (by simpa using hy))];rfl
theorem Zle:∀{L:FL} {j:Nat} {f a:Int} {y:Int×Int},(∀(i:Nat) (y:Int×Int),i<j->L[i]?=some y->y.1<f)->L[j]?=some y->y.1=f->ZeM L f a=L.set j (f,IntKind.i64.wrap (y.2+a))
 | [],j,f,a,y,_,h,_=>by simp at h
 | p::L,0,f,a,y,_,h,e=>by
  obtain rfl:p=y:=by simpa using h
  unfold ZeM;rw[if_neg (by omega),if_pos e];rfl
 | p::L,j+1,f,a,y,h1,h2,e=>by
  unfold ZeM;rw[if_pos (h1 0 p (by omega) rfl),Zle (j:=j) (fun i y hi hy=>h1 (i+1) y (by omega) (by simpa using hy)) (by simpa using h2) e];rfl
theorem Zgq{L:FL}(h:∀p∈L,B64 p.1/\B64 p.2):∀x∈L.map ZT,Za7 x:=by
 intro x hx;obtain⟨p,hp,rfl⟩:=List.mem_map.1 hx;exact⟨(h p hp).1,by show B64 0;unfold B64;omega,by show B64 0;unfold B64;omega,(h p hp).2⟩
theorem Zlf:∀(l:List Ln) (j:Nat) (x:Ln) (z:Int),l[j]?=some x->Zdl (l.set j ⟨x.f,x.o,x.n,z⟩)=(Zdl l).set (j*4+3) (.int .i64 z)
 | [],j,x,z,h=>by simp at h
 | p::l,0,x,z,h=>by
  obtain rfl:p=x:=by simpa using h
  rfl
 | p::l,j+1,x,z,h=>by
  have ih:=Zlf l j x z (by simpa using h);show lnV p++Zdl (l.set j ⟨x.f,x.o,x.n,z⟩)=(lnV p++Zdl l).set _ _;rw[ih,show(j+1)*4+3=(lnV p).length+(j*4+3)from by show _=4+_;omega,List.set_append_right _ _ (Nat.le_add_right _ _),Nat.add_sub_cancel_left]
section
variable{w w':World}{base:Nat}{l:List Ln}
theorem Z8.setA{A:Option Addr}{n c j:Nat}{x:Ln}(h:Z8 w base (.slice A n c) l)(hj:l[j]?=some x)(z:Int) :
 ∃g,A=some ⟨g,0,none⟩/\base<=g/\g<w.heap.size/\(∀i,w.frozen? ⟨g,i,none⟩=false)/\ZpV w g (j*4) x/\Z8 (w.setCell ⟨g,j*4+3,none⟩ (.int .i64 z)) base (.slice A n c) (l.set j ⟨x.f,x.o,x.n,z⟩)/\Below base w (w.setCell ⟨g,j*4+3,none⟩ (.int .i64 z)):=by
 have hjl:=(List.getElem?_eq_some_iff.1 hj).1;rcases h.2 with ⟨e,h0⟩|⟨g,cap,cur,e,hb,hg,hc,hcm,hsz,htake⟩
 · omega
 · obtain⟨rfl,rfl,rfl⟩:A=some ⟨g,0,none⟩/\n=l.length/\c=cap:=by injection e with e1 e2 e3;exact⟨e1,e2,e3⟩
   have e1:=heap_setCell_same w g (j*4+3) cur 34 (.int .i64 z) hg;obtain⟨g0,g1,g2,g3⟩:=Zhr hj
   have at_:∀k u,k<l.length*4->(Zdl l)[k]?=some u->w.cell? ⟨g,k,none⟩=some u:=fun k u hk hu=>by
    rw[cell_of_row w g k cur _ (0,0) hg,<-hu,<-htake,List.getElem?_take,if_pos hk];simp
   refine⟨g,rfl,hb,(Array.getElem?_eq_some_iff.1 hg).1,fun i=>frozen_of_row w g i _ _ hg,⟨at_ _ _ (by omega) g0,at_ _ _ (by omega) g1,at_ _ _ (by omega) g2,at_ _ _ (by omega) g3⟩,⟨?_,Or.inr ⟨g,c,_,by rw[List.length_set],hb,e1,by rw[List.length_set];exact hc,hcm,by simpa using hsz,?_⟩⟩,⟨rfl,rfl,rfl,by simp[World.setCell],fun k hk=>Below.heap_setCell _ _ _ _ (by show k≠g;omega)⟩⟩
   · rw[Za4]
   · rw[List.length_set,Zlf _ _ _ _ hj,<-htake];simp only[Array.toList_setIfInBounds,List.take_set]
def Zqw(w:World)(L':List Ln)(W:World)(gl:Nat)(v6:Value)(A2:Option Addr)(m c2:Nat):Prop:=
 ∃v7 w7,(Builtin.append_ #[35,35] 35 #[v6,.slice (some ⟨gl,0,none⟩) 1 1]).run prog W=.ok v7 w7/\Below w.heap.size w w7/\
  ∃v8 w8,(Builtin.append_ #[35,35] 35 #[v7,.slice A2 m c2]).run prog w7=.ok v8 w8/\Below w.heap.size w w8/\Z8 w8 w.heap.size v8 L'
theorem Zqw.mk_{W:World}{L1 L2:List Ln}{gl m c2:Nat}{v6:Value}{A2:Option Addr}{x:Ln}{T:TypeId}(hb:Below w.heap.size w W)(hT:Z8 W w.heap.size v6 L1)(hlit:W.heap[gl]?=some (.cells #[.int .i64 x.f,.int .i64 x.o,.int .i64 x.n,.int .i64 x.a] T))
 (hx:Za7 x) (hs:RL w w.heap.size A2 m L2) (h1:L1.length<=1073741823) (h2:m<=1073741823):Zqw w (L1++[x]++L2) W gl v6 A2 m c2:=by
 obtain⟨v7,w7,hr7,hT7,hb7,_⟩:=hT.append1 hlit hx (by omega) hb.size 35;have hb07:=hb.trans hb7;obtain⟨v8,w8,hr8,hT8,hb8,_⟩:=hT7.appendL (c:=c2) (hs.below hb07) (by rw[List.length_append];simp;omega) (by omega) hb07.size 35;exact⟨v7,w7,hr7,hb07,v8,w8,hr8,hb07.trans hb8,hT8⟩
theorem ZqF{wd:World}{A1 A2:Option Addr}{L1 L2:List Ln}{n1 c1 m c2:Nat}{x:Ln}(hb:Below w.heap.size w wd)(h1:RL w w.heap.size A1 n1 L1)(hs:RL w w.heap.size A2 m L2)(hx:Za7 x)(hn1:n1<=1073741823)(hm:m<=1073741823) :
 ∃v6 w6,(Builtin.append_ #[35,35] 35 #[.slice none 0 0,.slice A1 n1 c1]).run prog wd.drew=.ok v6 w6/\Below w.heap.size w w6/\Below w.heap.size w (w6.alloc (.cells #[.int .i64 x.f,.int .i64 x.o,.int .i64 x.n,.int .i64 x.a] 34 (0,0)))/\Zqw w (L1++[x]++L2) (w6.alloc (.cells #[.int .i64 x.f,.int .i64 x.o,.int .i64 x.n,.int .i64 x.a] 34 (0,0))) w6.heap.size v6 A2 m c2:=by
 have hbd:Below w.heap.size w wd.drew:=hb.drew;obtain⟨v6,w6,hr6,hT6,hb6,_⟩:=(Z8.start wd.drew w.heap.size).appendL (c:=c1) (h1.below hbd) (by simp) (by omega) hbd.size 35;rw[List.nil_append]at hT6;have hb06:=hbd.trans hb6;have hba:=hb06.alloc hb06.size (.cells #[.int .i64 x.f,.int .i64 x.o,.int .i64 x.n,.int .i64 x.a] 34 (0,0));exact⟨v6,w6,hr6,hb06,hba,Zqw.mk_ hba (hT6.below ((Below.refl _ _).alloc (Nat.le_refl _) _)) (heap_alloc_new _ _) hx hs (by rw[h1.1];exact hn1) hm⟩
theorem ZqG{wd:World}{A1 A2:Option Addr}{L1 L2:List Ln}{n1 c1 m c2:Nat}{x:Ln}(hb:Below w.heap.size w wd)(h1:RL w w.heap.size A1 n1 L1)(hs:RL w w.heap.size A2 m L2)(hx:Za7 x)(hn1:n1<=1073741823)(hm:m<=1073741823) :
 Below w.heap.size w (wd.alloc (.cells #[.int .i64 x.f,.int .i64 x.o,.int .i64 x.n,.int .i64 x.a] 34 (0,0))).drew/\∃v6 w6,(Builtin.append_ #[35,35] 35 #[.slice none 0 0,.slice A1 n1 c1]).run prog (wd.alloc (.cells #[.int .i64 x.f,.int .i64 x.o,.int .i64 x.n,.int .i64 x.a] 34 (0,0))).drew=.ok v6 w6/\Below w.heap.size w w6/\Zqw w (L1++[x]++L2) w6 wd.heap.size v6 A2 m c2:=by
 have hbd:Below w.heap.size w (wd.alloc (.cells #[.int .i64 x.f,.int .i64 x.o,.int .i64 x.n,.int .i64 x.a] 34 (0,0))).drew:=(hb.alloc hb.size _).drew;have hlit:(wd.alloc (.cells #[.int .i64 x.f,.int .i64 x.o,.int .i64 x.n,.int .i64 x.a] 34 (0,0))).drew.heap[wd.heap.size]?=some (.cells #[.int .i64 x.f,.int .i64 x.o,.int .i64 x.n,.int .i64 x.a] 34 (0,0)):=heap_alloc_new wd _;have hlt:wd.heap.size<(wd.alloc (.cells #[.int .i64 x.f,.int .i64 x.o,.int .i64 x.n,.int .i64 x.a] 34 (0,0))).drew.heap.size:=(Array.getElem?_eq_some_iff.1 hlit).1;obtain⟨v6,w6,hr6,hT6,hb6,hg6,_⟩:=(Z8.start (wd.alloc (.cells #[.int .i64 x.f,.int .i64 x.o,.int .i64 x.n,.int .i64 x.a] 34 (0,0))).drew w.heap.size).appendL (c:=c1) (h1.below hbd) (by simp) (by omega) hbd.size 35;rw[List.nil_append]at hT6;have hb06:=hbd.trans hb6;exact⟨hbd,v6,w6,hr6,hb06,Zqw.mk_ hb06 hT6 ((hg6.block _ hlt (by simp[Value.ownBlock])).trans hlit) hx hs (by rw[h1.1];exact hn1) hm⟩
end
theorem Zs{P:Program}{ops:Array Oper}{o:Oper}{a:Act}{w:World}{K:Act->World->Prop}{Q:Exit->Act->World->Prop}{E:Prop}(hgd:o.guard=none)(s x:Operand)(t tn:TypeId)
 (ho:o.op=.call {callee:=.builtin .append,args:=#[s,x],argTypes:=#[t,tn]}) (v u:Value) (hs:a.eval s=v) (hx:a.eval x=u) {v':Value} {w':World}
 (hrun:(Builtin.append_ #[t,tn] o.type #[v,u]).run P w=.ok v' w') (h:K (a.put o.dst v') w') :
 if Region.wanted o (yielded ops a.tmps)=true then Oper.wp P o a w K Q else E:=by
 have hw:Region.wanted o (yielded ops a.tmps)=true:=by simp[Region.wanted,hgd]
 rw[if_pos hw];exact Lib.wp_append_run w s x t tn ho v u hs hx _ _ hrun h
theorem ZaL{B:Nat}{w w':World}(h:Below B w w'):∀n,Below B w (w'.drewN n):=fun n=>⟨h.os,h.tape,h.output,h.size,h.block⟩
theorem ZiL{l:List Ln}{j:Nat}{x:Ln}(h:l[j]?=some x):fundsOf (l.take (j+1))=ZeM (fundsOf (l.take j)) x.f x.a:=by
 obtain⟨hj,rfl⟩:=List.getElem?_eq_some_iff.1 h;rw[List.take_succ_eq_append_getElem hj,ZaN]
section
variable{w w':World}{A A':Option Addr}{n m k B B':Nat}{l l':List Ln}
theorem ZiM(hr:RL w B A n l)(hB:B<=w.heap.size)(hn:n<=1073741823) :
 Calls prog 252 #[.slice A n k] w fun e w'=>∃u,e=.returned u/\Z8 w' w.heap.size u ((fundsOf l).map ZT)/\Below w.heap.size w w':=by
 have HR:=hid (And.intro hr hB);clear hr hB;go_enter func252,ntmps252;go_wp2_with fail
 go_loopw[3,4] (fun u i wr=>∃q:Nat,q<=n/\i=.int .i64 q/\Hid (Z8 wr w.heap.size u ((fundsOf (l.take q)).map ZT)/\Below w.heap.size w wr)) (fun _ i _=>n-(intOf i).toNat)
 case atStart=>exact⟨0,Nat.zero_le _,rfl,hid ⟨by rw[List.take_zero];exact Z8.start _ _,Below.refl _ _⟩⟩
 case round=>
  obtain⟨q,hq,rfl,HI⟩:=hrel;by_cases hlt:q<n
  · have hlt':(q:Int)<(n:Int):=by omega
    obtain⟨x,hx⟩:∃x,l[q]?=some x:=⟨_,List.getElem?_eq_getElem (by rw[HR.out.1.len];exact hlt)⟩
    have hok:=HR.out.1.ok x (List.mem_of_getElem? hx);have hstep:=ZiL hx;have hin:=ZaO (l.take q) (fun y hy=>HR.out.1.ok y (List.mem_of_mem_take hy));have hlen:(fundsOf (l.take q)).length<=q:=Nat.le_trans (Zah _) (by rw[List.length_take];exact Nat.min_le_left _ _);have hnext:∀W v,Z8 W w.heap.size v ((ZeM (fundsOf (l.take q)) x.f x.a).map ZT)/\Below w.heap.size w W->Z8 W w.heap.size v ((fundsOf (l.take (q+1))).map ZT)/\Below w.heap.size w W:=fun W v h=>by rw[hstep];exact h
    have hI:=HI.out;generalize fundsOf (l.take q)=L at hI hnext hstep hin hlen;obtain⟨hown,hb⟩:=hI;obtain⟨b,off,rfl,hbB,hat⟩:=HR.out.1.2.2 (by omega);obtain⟨c0,c1,c2,c3⟩:=(hat q x hx).keep hbB (fun b o hbb=>hb.cell (p:=⟨b,o,none⟩) (Nat.lt_of_lt_of_le hbb HR.out.2));obtain⟨xf,xo,xn,xa⟩:=x;simp only at c0 c1 c2 c3 hok hstep hnext;obtain⟨PA,PC,rfl,hPC⟩:=hown.shape;rw[List.length_map]at hown hPC ⊢;obtain⟨_,_,hrow⟩:=hown.read (Zgq hin);obtain⟨N,hN⟩:∃N,N=L.length:=⟨_,rfl⟩
    rw[<-hN]at hown hrow hPC hlen ⊢;have hN30:N<=1073741823:=by omega
    have HBLT:=hid (Nat.lt_of_lt_of_le (Nat.lt_of_lt_of_le hbB HR.out.2) hb.size);have HNX:=hid hnext;have HOW:=hid (And.intro hown (And.intro hb hrow));have HOK:=hid (And.intro hok hin);have HNN:=hid hN;have HC:=hid (And.intro c0 c3);clear hown hb hrow hnext hok hin hN hx hat HI hstep c0 c1 c2 c3;go_wp2_with fail;obtain⟨w1,hw1⟩:∃w1,w1=wr:=⟨_,rfl⟩
    subst hw1
    go_loopw[5] (fun i W=>∃j:Nat,j<=N/\i=.int .i64 j/\Hid ((∀(i:Nat) (y:Int×Int),i<j->L[i]?=some y->y.1<xf)/\Below w1.heap.size w1 W)) (fun i _=>N-(intOf i).toNat)
    case atStart=>exact⟨0,Nat.zero_le _,rfl,hid ⟨fun i y h=>absurd h (Nat.not_lt_zero _),Below.refl _ _⟩⟩
    case round=>
     obtain⟨W,hW⟩:∃W,W=wr:=⟨_,rfl⟩
     subst hW;obtain⟨j,hj,rfl,HM⟩:=hrel;obtain⟨hno,hbw⟩:=HM.out;have c0:=(hbw.cell (p:=⟨b,off+q*4,none⟩) HBLT.out).trans HC.out.1;have c3:=(hbw.cell (p:=⟨b,off+q*4+3,none⟩) HBLT.out).trans HC.out.2;by_cases hjl:j<N
     · have hjl':(j:Int)<(N:Int):=by omega
       obtain⟨y,hy⟩:∃y,L[j]?=some y:=⟨_,List.getElem?_eq_getElem (by rw[<-HNN.out];exact hjl)⟩
       obtain⟨g,og,rfl,hgl,hpat⟩:=HOW.out.2.2.2.2 (by omega);obtain⟨d0,d1,d2,d3⟩:=(hpat j (ZT y) (by rw[List.getElem?_map,hy];rfl)).keep hgl (fun b o hbb=>hbw.cell (p:=⟨b,o,none⟩) hbb);have d0':W.cell? ⟨g,og+j*4,none⟩=some (.int .i64 y.1):=d0;have HY:=hid (And.intro hy hno);have HBW:=hid hbw;by_cases hlx:y.1<xf
       · have HN:=hid (show(∀(i:Nat) (y:Int×Int),i<j+1->L[i]?=some y->y.1<xf)from fun i z hi hz=>by
          rcases Nat.lt_or_ge i j with h|h
          · exact hno i z h hz
          · obtain rfl:i=j:=by omega
            rw[hy]at hz;cases hz
            exact hlx)
         generalize y.1=yf at d0' hlx;clear hy hno hbw hpat d0 d1 d2 d3 HM;go_wp2_with fail
         go_quiet (fail)
         go_wp2;go_roundw
         case rel=>exact⟨j+1,by omega,by go_num,hid ⟨HN.out,ZaL HBW.out _⟩⟩
         case measure=>simp[intOf];omega
       · by_cases hxe:y.1=xf
         · obtain⟨yf,s⟩:=y;simp only at hxe d0' hlx;subst hxe;obtain⟨z,hz⟩:∃z,IntKind.i64.wrap (s+xa)=z:=⟨_,rfl⟩
           have hrep:=Zle (L:=L) (j:=j) (f:=yf) (a:=xa) hno hy rfl;simp only[hz]at hrep;have HREP:=hid hrep;have hbeq:(yf == yf)=true:=by simp
           clear hy hno hbw hpat d0 d1 d2 d3 HM hrep;go_wp2_with fail
           go_quiet (fail)
           revert nq
           intro nq1;go_wp2_with fail
           go_quiet (fail)
           go_wp2_with fail;obtain⟨wd,hwd⟩:∃wd,wd=(W.drewN nq1).drewN nq:=⟨_,rfl⟩
           have hbd:Below w1.heap.size w1 wd:=by rw[hwd];exact ZaL (ZaL HBW.out _) _
           rw[<-hwd];clear hwd;have hownd:Z8 wd.drew w.heap.size (.slice (some ⟨g,og,none⟩) N PC) (L.map ZT):=HOW.out.1.below hbd.drew;obtain⟨g',eg,hgb,hgs,hfz,hln,hset,hbs⟩:=hownd.setA (j:=j) (x:=ZT (yf,s)) (by rw[List.getElem?_map,HY.out.1];rfl) z;obtain⟨rfl,rfl⟩:g=g'/\og=0:=by injection eg with e;injection e with e1 e2;exact⟨e1,e2⟩
           have x1:wd.drew.cell? ⟨g,j*4+3,none⟩=some (.int .i64 s)/\wd.drew.cell? ⟨b,off+q*4+3,none⟩=some (.int .i64 xa)/\wd.drew.frozen? ⟨g,j*4+3,none⟩=false:=⟨hln.2.2.2,(hbd.drew.cell (p:=⟨b,off+q*4+3,none⟩) HBLT.out).trans HC.out.2,hfz _⟩
           have HE:=hid (HNX.out (wd.drew.setCell ⟨g,j*4+3,none⟩ (.int .i64 z)) (.slice (some ⟨g,0,none⟩) N PC) ⟨by rw[HREP.out,List.map_set];exact hset,HOW.out.2.1.trans ((hbd.drew.mono HOW.out.2.1.size).trans hbs)⟩);clear hownd hgb hgs hfz hln hset hbs hbd;refine wp_region_any (by rfl) ?_;change wpAny _ _ _ _ _ _ _ wd.drew;refine ZaP (S:=fun wz=>wz.cell? ⟨g,j*4+3,none⟩=some (.int .i64 s)/\wz.cell? ⟨b,off+q*4+3,none⟩=some (.int .i64 xa)/\wz.frozen? ⟨g,j*4+3,none⟩=false) (z:=15) _ _ _ _ ?_;refine Zb (i:=0) (oi:={dst:=some 48,op:=_,type:=_,pos:=_,after:=_,guard:=_}) (v:=.slice (some ⟨g,0,none⟩) N PC) rfl (by decide) (by kernel_rfl) (by kernel_rfl) (by kernel_rfl) (by kernel_rfl) (fun _ _ _ h=>h) (Or.inl ⟨by rfl,fun wz hS=>?_⟩) x1 ?_
           · obtain⟨y1,y2,y3⟩:=hS
             go_simp
             all_goals first|omega|simp[Addr.add]
           try simp only[Act.put,List.setIfInBounds_toArray,List.set_cons_zero,List.set_cons_succ]
           refine Zb (i:=1) (oi:={dst:=some 49,op:=_,type:=_,pos:=_,after:=_,guard:=_}) (v:=.int .i64 ((j:Nat):Int)) rfl (by decide) (by kernel_rfl) (by kernel_rfl) (by kernel_rfl) (by kernel_rfl) (fun _ _ _ h=>h) (Or.inl ⟨by rfl,fun wz hS=>?_⟩) x1 ?_
           · obtain⟨y1,y2,y3⟩:=hS
             go_simp
             all_goals first|omega|simp[Addr.add]
           try simp only[Act.put,List.setIfInBounds_toArray,List.set_cons_zero,List.set_cons_succ]
           refine Zb (i:=2) (oi:={dst:=some 50,op:=_,type:=_,pos:=_,after:=_,guard:=_}) (v:=.slice (some ⟨g,0,none⟩) N PC) rfl (by decide) (by kernel_rfl) (by kernel_rfl) (by kernel_rfl) (by kernel_rfl) (fun _ _ _ h=>h) (Or.inl ⟨by rfl,fun wz hS=>?_⟩) x1 ?_
           · obtain⟨y1,y2,y3⟩:=hS
             go_simp
             all_goals first|omega|simp[Addr.add]
           try simp only[Act.put,List.setIfInBounds_toArray,List.set_cons_zero,List.set_cons_succ]
           refine Zb (i:=3) (oi:={dst:=some 51,op:=_,type:=_,pos:=_,after:=_,guard:=_}) (v:=.int .i64 ((j:Nat):Int)) rfl (by decide) (by kernel_rfl) (by kernel_rfl) (by kernel_rfl) (by kernel_rfl) (fun _ _ _ h=>h) (Or.inl ⟨by rfl,fun wz hS=>?_⟩) x1 ?_
           · obtain⟨y1,y2,y3⟩:=hS
             go_simp
             all_goals first|omega|simp[Addr.add]
           try simp only[Act.put,List.setIfInBounds_toArray,List.set_cons_zero,List.set_cons_succ]
           refine Zb (i:=4) (oi:={dst:=some 52,op:=_,type:=_,pos:=_,after:=_,guard:=_}) (v:=.pointer (some ⟨g,j*4,none⟩)) rfl (by decide) (by kernel_rfl) (by kernel_rfl) (by kernel_rfl) (by kernel_rfl) (fun _ _ _ h=>h) (Or.inl ⟨by rfl,fun wz hS=>?_⟩) x1 ?_
           · obtain⟨y1,y2,y3⟩:=hS
             go_simp
             all_goals first|omega|simp[Addr.add]
           try simp only[Act.put,List.setIfInBounds_toArray,List.set_cons_zero,List.set_cons_succ]
           refine Zb (i:=5) (oi:={dst:=some 53,op:=_,type:=_,pos:=_,after:=_,guard:=_}) (v:=.pointer (some ⟨g,j*4+3,none⟩)) rfl (by decide) (by kernel_rfl) (by kernel_rfl) (by kernel_rfl) (by kernel_rfl) (fun _ _ _ h=>h) (Or.inl ⟨by rfl,fun wz hS=>?_⟩) x1 ?_
           · obtain⟨y1,y2,y3⟩:=hS
             go_simp
             all_goals first|omega|simp[Addr.add]
           try simp only[Act.put,List.setIfInBounds_toArray,List.set_cons_zero,List.set_cons_succ]
           refine Zb (i:=6) (oi:={dst:=some 54,op:=_,type:=_,pos:=_,after:=_,guard:=_}) (v:=.int .i64 s) rfl (by decide) (by kernel_rfl) (by kernel_rfl) (by kernel_rfl) (by kernel_rfl) (fun _ _ _ h=>h) (Or.inl ⟨by rfl,fun wz hS=>?_⟩) x1 ?_
           · obtain⟨y1,y2,y3⟩:=hS
             go_simp
             all_goals first|omega|simp[Addr.add]
           try simp only[Act.put,List.setIfInBounds_toArray,List.set_cons_zero,List.set_cons_succ]
           refine Zb (i:=7) (oi:={dst:=some 55,op:=_,type:=_,pos:=_,after:=_,guard:=_}) (v:=.slice (some ⟨b,off,none⟩) n k) rfl (by decide) (by kernel_rfl) (by kernel_rfl) (by kernel_rfl) (by kernel_rfl) (fun _ _ _ h=>h) (Or.inl ⟨by rfl,fun wz hS=>?_⟩) x1 ?_
           · obtain⟨y1,y2,y3⟩:=hS
             go_simp
             all_goals first|omega|simp[Addr.add]
           try simp only[Act.put,List.setIfInBounds_toArray,List.set_cons_zero,List.set_cons_succ]
           refine Zb (i:=8) (oi:={dst:=some 56,op:=_,type:=_,pos:=_,after:=_,guard:=_}) (v:=.int .i64 ((q:Nat):Int)) rfl (by decide) (by kernel_rfl) (by kernel_rfl) (by kernel_rfl) (by kernel_rfl) (fun _ _ _ h=>h) (Or.inl ⟨by rfl,fun wz hS=>?_⟩) x1 ?_
           · obtain⟨y1,y2,y3⟩:=hS
             go_simp
             all_goals first|omega|simp[Addr.add]
           try simp only[Act.put,List.setIfInBounds_toArray,List.set_cons_zero,List.set_cons_succ]
           refine Zb (i:=9) (oi:={dst:=some 57,op:=_,type:=_,pos:=_,after:=_,guard:=_}) (v:=.pointer (some ⟨b,off+q*4,none⟩)) rfl (by decide) (by kernel_rfl) (by kernel_rfl) (by kernel_rfl) (by kernel_rfl) (fun _ _ _ h=>h) (Or.inl ⟨by rfl,fun wz hS=>?_⟩) x1 ?_
           · obtain⟨y1,y2,y3⟩:=hS
             go_simp
             all_goals first|omega|simp[Addr.add]
           try simp only[Act.put,List.setIfInBounds_toArray,List.set_cons_zero,List.set_cons_succ]
           refine Zb (i:=10) (oi:={dst:=some 58,op:=_,type:=_,pos:=_,after:=_,guard:=_}) (v:=.pointer (some ⟨b,off+q*4+3,none⟩)) rfl (by decide) (by kernel_rfl) (by kernel_rfl) (by kernel_rfl) (by kernel_rfl) (fun _ _ _ h=>h) (Or.inl ⟨by rfl,fun wz hS=>?_⟩) x1 ?_
           · obtain⟨y1,y2,y3⟩:=hS
             go_simp
             all_goals first|omega|simp[Addr.add]
           try simp only[Act.put,List.setIfInBounds_toArray,List.set_cons_zero,List.set_cons_succ]
           refine Zb (i:=11) (oi:={dst:=some 59,op:=_,type:=_,pos:=_,after:=_,guard:=_}) (v:=.int .i64 xa) rfl (by decide) (by kernel_rfl) (by kernel_rfl) (by kernel_rfl) (by kernel_rfl) (fun _ _ _ h=>h) (Or.inl ⟨by rfl,fun wz hS=>?_⟩) x1 ?_
           · obtain⟨y1,y2,y3⟩:=hS
             go_simp
             all_goals first|omega|simp[Addr.add]
           try simp only[Act.put,List.setIfInBounds_toArray,List.set_cons_zero,List.set_cons_succ]
           refine Zb (i:=12) (oi:={dst:=some 60,op:=_,type:=_,pos:=_,after:=_,guard:=_}) (v:=.int .i64 z) rfl (by decide) (by kernel_rfl) (by kernel_rfl) (by kernel_rfl) (by kernel_rfl) (fun _ _ _ h=>h) (Or.inl ⟨by rfl,fun wz hS=>?_⟩) x1 ?_
           · obtain⟨y1,y2,y3⟩:=hS
             go_simp
             all_goals first|omega|simp[Addr.add]
           try simp only[Act.put,List.setIfInBounds_toArray,List.set_cons_zero,List.set_cons_succ]
           have x2:=x1;obtain⟨y1,y2,y3⟩:=x2;refine Zl (j:=13) (o:={dst:=some 61,op:=_,type:=_,pos:=_,after:=_,guard:=_}) rfl (by kernel_rfl) (by decide) ?_;intro K1 hK1;rw[if_pos (by rfl)]
           go_simp
           refine hK1 _ _ x1 ?_;clear hK1 K1
           try simp only[Act.put,List.setIfInBounds_toArray,List.set_cons_zero,List.set_cons_succ]
           refine Zl (j:=14) (o:={dst:=some 62,op:=_,type:=_,pos:=_,after:=_,guard:=_}) rfl (by kernel_rfl) (by decide) ?_;intro K1 hK1;rw[if_pos (by rfl)]
           go_simp
           refine hK1 _ _ x1 ?_;clear hK1 K1
           try simp only[Act.put,List.setIfInBounds_toArray,List.set_cons_zero,List.set_cons_succ]
           refine Z4 (o:={dst:=none,op:=_,type:=_,pos:=_,after:=_,guard:=_}) rfl (by kernel_rfl) ?_;intro K1 hK1;rw[if_pos (by rfl)]
           go_simp
           refine hK1 _ _ ?_;clear hK1 K1;refine wpAny_done (by kernel_rfl) ?_ _;clear y1 y2 y3;go_wp2;go_roundw
           case rel=>exact⟨q+1,by omega,by go_num,HE⟩
           case measure=>simp[intOf];omega
         · have hgt:xf<y.1:=by omega
           have HINS:=hid (Zho (L:=L) (j:=j) (f:=xf) (a:=xa) (by rw[<-HNN.out];exact hj) hno (fun z hz=>by rw[hy]at hz;cases hz;exact hgt));have hbne:(y.1 == xf)=false:=by simpa using hxe
           generalize y.1=yf at d0' hlx hbne;obtain⟨A2,m2,k2,HA2,hm2,hsb⟩:∃A2 m2 k2,Hid ((if PC=j then(some (⟨g,og,none⟩:Addr))else Option.map (fun a:Addr=>a.add (j*4)) (some (⟨g,og,none⟩:Addr)))=A2/\N-j=m2/\PC-j=k2)/\m2<=1073741823/\RL w1 w1.heap.size A2 m2 ((L.map ZT).drop j):=⟨_,_,_,hid ⟨rfl,rfl,rfl⟩,by omega,HOW.out.2.2.back (j:=j) hj hPC⟩
           have hsf:=HOW.out.2.2.front (j:=j) hj;have hxk:Za7 ⟨xf,0,0,xa⟩:=⟨HOK.out.1.1,by show B64 0;unfold B64;omega,by show B64 0;unfold B64;omega,HOK.out.1.2.2.2⟩
           have HIA:=hid (fun(wd:World) (hb:Below w1.heap.size w1 wd)=>ZqF (c1:=PC) (c2:=k2) (x:=⟨xf,0,0,xa⟩) hb hsf hsb hxk (by omega) hm2);have HIB:=hid (fun(wd:World) (hb:Below w1.heap.size w1 wd)=>ZqG (c1:=PC) (c2:=k2) (x:=⟨xf,0,0,xa⟩) hb hsf hsb hxk (by omega) hm2);have HSX:=hid (fun(W:World) (hb:Below w1.heap.size w1 W)=>And.intro ((hb.cell (p:=⟨b,off+q*4,none⟩) HBLT.out).trans HC.out.1) ((hb.cell (p:=⟨b,off+q*4+3,none⟩) HBLT.out).trans HC.out.2));have HFIN:=hid (fun(v8:Value) (w8:World) (ho:Z8 w8 w1.heap.size v8 ((L.map ZT).take j++[⟨xf,0,0,xa⟩]++(L.map ZT).drop j)) (hb:Below w1.heap.size w1 w8)=>HNX.out w8 v8 ⟨by rw[HINS.out,List.map_append,List.map_append,<-List.map_take,<-List.map_drop]at *;exact ho.base_le HOW.out.2.1.size,HOW.out.2.1.trans (hb.mono HOW.out.2.1.size)⟩);clear hsb hsf hxk hm2 hy hno hbw hpat d0 d1 d2 d3 HM hxe hgt;go_wp2_with fail
           go_quiet (fail)
           revert nq
           intro nq1;go_wp2_with fail
           go_quiet (fail)
           go_wp2_with fail;obtain⟨wd,hwd⟩:∃wd,wd=(W.drewN nq1).drewN nq:=⟨_,rfl⟩
           have HBD:=hid (show Below w1.heap.size w1 wd by rw[hwd];exact ZaL (ZaL HBW.out _) _);rw[<-hwd];clear hwd
           replace HIA:=hid (HIA.out wd HBD.out)
           replace HIB:=hid (HIB.out wd HBD.out)
           have hk0:(0:Int)<=(j:Int):=by omega
           have hkc:(j:Int)<=(PC:Int):=by omega
           have hkn:(j:Int)<=(N:Int):=by omega
           have x1:wd.drew.cell? ⟨b,off+q*4,none⟩=some (.int .i64 xf)/\wd.drew.cell? ⟨b,off+q*4+3,none⟩=some (.int .i64 xa):=HSX.out _ HBD.out.drew;refine wp_region_any (by rfl) ?_;change wpAny _ _ _ _ _ _ _ wd.drew;refine ZaP (S:=fun wz=>wz.cell? ⟨b,off+q*4,none⟩=some (.int .i64 xf)/\wz.cell? ⟨b,off+q*4+3,none⟩=some (.int .i64 xa)) (z:=21) _ _ _ _ ?_;refine Zb (i:=0) (oi:={dst:=some 63,op:=_,type:=_,pos:=_,after:=_,guard:=_}) (v:=.slice (some ⟨g,og,none⟩) N PC) rfl (by decide) (by kernel_rfl) (by kernel_rfl) (by kernel_rfl) (by kernel_rfl) (fun _ _ _ h=>h) (Or.inl ⟨by rfl,fun wz hS=>?_⟩) x1 ?_
           · obtain⟨y1,y2⟩:=hS
             go_simp
             all_goals first|omega|simp[Addr.add]
           try simp only[Act.put,List.setIfInBounds_toArray,List.set_cons_zero,List.set_cons_succ]
           refine Zb (i:=1) (oi:={dst:=some 64,op:=_,type:=_,pos:=_,after:=_,guard:=_}) (v:=.int .i64 ((j:Nat):Int)) rfl (by decide) (by kernel_rfl) (by kernel_rfl) (by kernel_rfl) (by kernel_rfl) (fun _ _ _ h=>h) (Or.inl ⟨by rfl,fun wz hS=>?_⟩) x1 ?_
           · obtain⟨y1,y2⟩:=hS
             go_simp
             all_goals first|omega|simp[Addr.add]
           try simp only[Act.put,List.setIfInBounds_toArray,List.set_cons_zero,List.set_cons_succ]
           refine Zb (i:=2) (oi:={dst:=some 65,op:=_,type:=_,pos:=_,after:=_,guard:=_}) (v:=.slice (some ⟨g,og,none⟩) j PC) rfl (by decide) (by kernel_rfl) (by kernel_rfl) (by kernel_rfl) (by kernel_rfl) (fun _ _ _ h=>h) (Or.inl ⟨by rfl,fun wz hS=>?_⟩) x1 ?_
           · obtain⟨y1,y2⟩:=hS
             go_simp
             all_goals first|omega|simp[Addr.add]
           try simp only[Act.put,List.setIfInBounds_toArray,List.set_cons_zero,List.set_cons_succ]
           refine Zb (i:=4) (oi:={dst:=some 67,op:=_,type:=_,pos:=_,after:=_,guard:=_}) (v:=.slice (some ⟨b,off,none⟩) n k) rfl (by decide) (by kernel_rfl) (by kernel_rfl) (by kernel_rfl) (by kernel_rfl) (fun _ _ _ h=>h) (Or.inl ⟨by rfl,fun wz hS=>?_⟩) x1 ?_
           · obtain⟨y1,y2⟩:=hS
             go_simp
             all_goals first|omega|simp[Addr.add]
           try simp only[Act.put,List.setIfInBounds_toArray,List.set_cons_zero,List.set_cons_succ]
           refine Zb (i:=5) (oi:={dst:=some 68,op:=_,type:=_,pos:=_,after:=_,guard:=_}) (v:=.int .i64 ((q:Nat):Int)) rfl (by decide) (by kernel_rfl) (by kernel_rfl) (by kernel_rfl) (by kernel_rfl) (fun _ _ _ h=>h) (Or.inl ⟨by rfl,fun wz hS=>?_⟩) x1 ?_
           · obtain⟨y1,y2⟩:=hS
             go_simp
             all_goals first|omega|simp[Addr.add]
           try simp only[Act.put,List.setIfInBounds_toArray,List.set_cons_zero,List.set_cons_succ]
           refine Zb (i:=6) (oi:={dst:=some 69,op:=_,type:=_,pos:=_,after:=_,guard:=_}) (v:=.pointer (some ⟨b,off+q*4,none⟩)) rfl (by decide) (by kernel_rfl) (by kernel_rfl) (by kernel_rfl) (by kernel_rfl) (fun _ _ _ h=>h) (Or.inl ⟨by rfl,fun wz hS=>?_⟩) x1 ?_
           · obtain⟨y1,y2⟩:=hS
             go_simp
             all_goals first|omega|simp[Addr.add]
           try simp only[Act.put,List.setIfInBounds_toArray,List.set_cons_zero,List.set_cons_succ]
           refine Zb (i:=7) (oi:={dst:=some 70,op:=_,type:=_,pos:=_,after:=_,guard:=_}) (v:=.pointer (some ⟨b,off+q*4,none⟩)) rfl (by decide) (by kernel_rfl) (by kernel_rfl) (by kernel_rfl) (by kernel_rfl) (fun _ _ _ h=>h) (Or.inl ⟨by rfl,fun wz hS=>?_⟩) x1 ?_
           · obtain⟨y1,y2⟩:=hS
             go_simp
             all_goals first|omega|simp[Addr.add]
           try simp only[Act.put,List.setIfInBounds_toArray,List.set_cons_zero,List.set_cons_succ]
           refine Zb (i:=8) (oi:={dst:=some 71,op:=_,type:=_,pos:=_,after:=_,guard:=_}) (v:=.int .i64 xf) rfl (by decide) (by kernel_rfl) (by kernel_rfl) (by kernel_rfl) (by kernel_rfl) (fun _ _ _ h=>h) (Or.inl ⟨by rfl,fun wz hS=>?_⟩) x1 ?_
           · obtain⟨y1,y2⟩:=hS
             go_simp
             all_goals first|omega|simp[Addr.add]
           try simp only[Act.put,List.setIfInBounds_toArray,List.set_cons_zero,List.set_cons_succ]
           refine Zb (i:=9) (oi:={dst:=some 72,op:=_,type:=_,pos:=_,after:=_,guard:=_}) (v:=.slice (some ⟨b,off,none⟩) n k) rfl (by decide) (by kernel_rfl) (by kernel_rfl) (by kernel_rfl) (by kernel_rfl) (fun _ _ _ h=>h) (Or.inl ⟨by rfl,fun wz hS=>?_⟩) x1 ?_
           · obtain⟨y1,y2⟩:=hS
             go_simp
             all_goals first|omega|simp[Addr.add]
           try simp only[Act.put,List.setIfInBounds_toArray,List.set_cons_zero,List.set_cons_succ]
           refine Zb (i:=10) (oi:={dst:=some 73,op:=_,type:=_,pos:=_,after:=_,guard:=_}) (v:=.int .i64 ((q:Nat):Int)) rfl (by decide) (by kernel_rfl) (by kernel_rfl) (by kernel_rfl) (by kernel_rfl) (fun _ _ _ h=>h) (Or.inl ⟨by rfl,fun wz hS=>?_⟩) x1 ?_
           · obtain⟨y1,y2⟩:=hS
             go_simp
             all_goals first|omega|simp[Addr.add]
           try simp only[Act.put,List.setIfInBounds_toArray,List.set_cons_zero,List.set_cons_succ]
           refine Zb (i:=11) (oi:={dst:=some 74,op:=_,type:=_,pos:=_,after:=_,guard:=_}) (v:=.pointer (some ⟨b,off+q*4,none⟩)) rfl (by decide) (by kernel_rfl) (by kernel_rfl) (by kernel_rfl) (by kernel_rfl) (fun _ _ _ h=>h) (Or.inl ⟨by rfl,fun wz hS=>?_⟩) x1 ?_
           · obtain⟨y1,y2⟩:=hS
             go_simp
             all_goals first|omega|simp[Addr.add]
           try simp only[Act.put,List.setIfInBounds_toArray,List.set_cons_zero,List.set_cons_succ]
           refine Zb (i:=12) (oi:={dst:=some 75,op:=_,type:=_,pos:=_,after:=_,guard:=_}) (v:=.pointer (some ⟨b,off+q*4+3,none⟩)) rfl (by decide) (by kernel_rfl) (by kernel_rfl) (by kernel_rfl) (by kernel_rfl) (fun _ _ _ h=>h) (Or.inl ⟨by rfl,fun wz hS=>?_⟩) x1 ?_
           · obtain⟨y1,y2⟩:=hS
             go_simp
             all_goals first|omega|simp[Addr.add]
           try simp only[Act.put,List.setIfInBounds_toArray,List.set_cons_zero,List.set_cons_succ]
           refine Zb (i:=13) (oi:={dst:=some 76,op:=_,type:=_,pos:=_,after:=_,guard:=_}) (v:=.int .i64 xa) rfl (by decide) (by kernel_rfl) (by kernel_rfl) (by kernel_rfl) (by kernel_rfl) (fun _ _ _ h=>h) (Or.inl ⟨by rfl,fun wz hS=>?_⟩) x1 ?_
           · obtain⟨y1,y2⟩:=hS
             go_simp
             all_goals first|omega|simp[Addr.add]
           try simp only[Act.put,List.setIfInBounds_toArray,List.set_cons_zero,List.set_cons_succ]
           refine Zb (i:=14) (oi:={dst:=some 77,op:=_,type:=_,pos:=_,after:=_,guard:=_}) (v:=.agg #[.int .i64 xf,.int .i64 0,.int .i64 0,.int .i64 xa]) rfl (by decide) (by kernel_rfl) (by kernel_rfl) (by kernel_rfl) (by kernel_rfl) (fun _ _ _ h=>h) (Or.inl ⟨by rfl,fun wz hS=>?_⟩) x1 ?_
           · obtain⟨y1,y2⟩:=hS
             go_simp
             all_goals first|omega|simp[Addr.add]
           try simp only[Act.put,List.setIfInBounds_toArray,List.set_cons_zero,List.set_cons_succ]
           refine Zb (i:=17) (oi:={dst:=some 80,op:=_,type:=_,pos:=_,after:=_,guard:=_}) (v:=.slice (some ⟨g,og,none⟩) N PC) rfl (by decide) (by kernel_rfl) (by kernel_rfl) (by kernel_rfl) (by kernel_rfl) (fun _ _ _ h=>h) (Or.inl ⟨by rfl,fun wz hS=>?_⟩) x1 ?_
           · obtain⟨y1,y2⟩:=hS
             go_simp
             all_goals first|omega|simp[Addr.add]
           try simp only[Act.put,List.setIfInBounds_toArray,List.set_cons_zero,List.set_cons_succ]
           refine Zb (i:=18) (oi:={dst:=some 81,op:=_,type:=_,pos:=_,after:=_,guard:=_}) (v:=.int .i64 ((j:Nat):Int)) rfl (by decide) (by kernel_rfl) (by kernel_rfl) (by kernel_rfl) (by kernel_rfl) (fun _ _ _ h=>h) (Or.inl ⟨by rfl,fun wz hS=>?_⟩) x1 ?_
           · obtain⟨y1,y2⟩:=hS
             go_simp
             all_goals first|omega|simp[Addr.add]
           try simp only[Act.put,List.setIfInBounds_toArray,List.set_cons_zero,List.set_cons_succ]
           refine Zb (i:=19) (oi:={dst:=some 82,op:=_,type:=_,pos:=_,after:=_,guard:=_}) (v:=.slice A2 m2 k2) rfl (by decide) (by kernel_rfl) (by kernel_rfl) (by kernel_rfl) (by kernel_rfl) (fun _ _ _ h=>h) (Or.inl ⟨by rfl,fun wz hS=>?_⟩) x1 ?_
           · obtain⟨y1,y2⟩:=hS;obtain⟨e1,e2,e3⟩:=HA2.out;subst e1 e2 e3
             go_simp
             all_goals first|omega|simp[Addr.add]
           try simp only[Act.put,List.setIfInBounds_toArray,List.set_cons_zero,List.set_cons_succ]
           refine ZcA (j:=3) (k:=15) (o:={dst:=some 66,op:=_,type:=_,pos:=_,after:=_,guard:=none}) (o':={dst:=some 78,op:=_,type:=_,pos:=_,after:=_,guard:=none}) rfl rfl (by kernel_rfl) (by decide) (by decide) ?_ ?_
           · intro K1 hK1;obtain⟨v6,w6,hr6,hb6,hba,hE⟩:=HIA.out;refine Zs (by rfl) (.const (.slice none 0 0)) (.tmp 65) _ _ (by rfl) _ _ (by rfl) (by rfl) hr6 ?_;refine hK1 _ _ (HSX.out _ hb6) ?_;clear hK1 K1 hr6
             try simp only[Act.put,List.setIfInBounds_toArray,List.set_cons_zero,List.set_cons_succ]
             refine Zl (j:=15) (o:={dst:=some 78,op:=_,type:=_,pos:=_,after:=_,guard:=none}) rfl (by kernel_rfl) (by decide) ?_;intro K1 hK1;rw[if_pos (by rfl)]
             go_simp
             refine hK1 _ _ (HSX.out _ hba) ?_;clear hK1 K1;generalize w6.alloc (.cells #[.int .i64 xf,.int .i64 0,.int .i64 0,.int .i64 xa] 34 (0,0))=W at hba hE ⊢;generalize w6.heap.size=gl at hE ⊢
             try simp only[Act.put,List.setIfInBounds_toArray,List.set_cons_zero,List.set_cons_succ]
             obtain⟨v7,w7,hr7,hb7,v8,w8,hr8,hb8,ho8⟩:=hE;refine Zl (j:=16) (o:={dst:=some 79,op:=_,type:=_,pos:=_,after:=_,guard:=none}) rfl (by kernel_rfl) (by decide) ?_;intro K1 hK1;refine Zs (by rfl) (.tmp 66) (.tmp 78) _ _ (by rfl) _ _ (by rfl) (by rfl) hr7 ?_;refine hK1 _ _ (HSX.out _ hb7) ?_;clear hK1 K1 hr7
             try simp only[Act.put,List.setIfInBounds_toArray,List.set_cons_zero,List.set_cons_succ]
             refine Zl (j:=20) (o:={dst:=some 83,op:=_,type:=_,pos:=_,after:=_,guard:=none}) rfl (by kernel_rfl) (by decide) ?_;intro K1 hK1;refine Zs (by rfl) (.tmp 79) (.tmp 82) _ _ (by rfl) _ _ (by rfl) (by rfl) hr8 ?_;have y8:=HSX.out _ hb8;refine hK1 _ _ y8 ?_;clear hK1 K1 hr8
             try simp only[Act.put,List.setIfInBounds_toArray,List.set_cons_zero,List.set_cons_succ]
             refine Z4 (o:={dst:=some 3,op:=_,type:=_,pos:=_,after:=_,guard:=_}) rfl (by kernel_rfl) ?_;intro K1 hK1;rw[if_pos (by rfl)]
             go_simp
             refine hK1 _ _ ?_;clear hK1 K1;refine wpAny_done (by kernel_rfl) ?_ _;have HE:=hid (HFIN.out v8 w8 ho8 hb8);clear ho8 hb8 y8 x1 hb7;go_wp2;go_roundw
             case rel=>exact⟨q+1,by omega,by go_num,HE⟩
             case measure=>simp[intOf];omega
           · intro K1 hK1;obtain⟨hbd,v6,w6,hr6,hb6,hE⟩:=HIB.out;rw[if_pos (by rfl)]
             go_simp
             refine hK1 _ _ (HSX.out _ hbd) ?_;clear hK1 K1
             try simp only[Act.put,List.setIfInBounds_toArray,List.set_cons_zero,List.set_cons_succ]
             refine Zl (j:=3) (o:={dst:=some 66,op:=_,type:=_,pos:=_,after:=_,guard:=none}) rfl (by kernel_rfl) (by decide) ?_;intro K1 hK1;refine Zs (by rfl) (.const (.slice none 0 0)) (.tmp 65) _ _ (by rfl) _ _ (by rfl) (by rfl) hr6 ?_;refine hK1 _ _ (HSX.out _ hb6) ?_;clear hK1 K1 hr6 hbd;generalize w6=W at hE ⊢;generalize wd.heap.size=gl at hE ⊢
             try simp only[Act.put,List.setIfInBounds_toArray,List.set_cons_zero,List.set_cons_succ]
             obtain⟨v7,w7,hr7,hb7,v8,w8,hr8,hb8,ho8⟩:=hE;refine Zl (j:=16) (o:={dst:=some 79,op:=_,type:=_,pos:=_,after:=_,guard:=none}) rfl (by kernel_rfl) (by decide) ?_;intro K1 hK1;refine Zs (by rfl) (.tmp 66) (.tmp 78) _ _ (by rfl) _ _ (by rfl) (by rfl) hr7 ?_;refine hK1 _ _ (HSX.out _ hb7) ?_;clear hK1 K1 hr7
             try simp only[Act.put,List.setIfInBounds_toArray,List.set_cons_zero,List.set_cons_succ]
             refine Zl (j:=20) (o:={dst:=some 83,op:=_,type:=_,pos:=_,after:=_,guard:=none}) rfl (by kernel_rfl) (by decide) ?_;intro K1 hK1;refine Zs (by rfl) (.tmp 79) (.tmp 82) _ _ (by rfl) _ _ (by rfl) (by rfl) hr8 ?_;have y8:=HSX.out _ hb8;refine hK1 _ _ y8 ?_;clear hK1 K1 hr8
             try simp only[Act.put,List.setIfInBounds_toArray,List.set_cons_zero,List.set_cons_succ]
             refine Z4 (o:={dst:=some 3,op:=_,type:=_,pos:=_,after:=_,guard:=_}) rfl (by kernel_rfl) ?_;intro K1 hK1;rw[if_pos (by rfl)]
             go_simp
             refine hK1 _ _ ?_;clear hK1 K1;refine wpAny_done (by kernel_rfl) ?_ _;have HE:=hid (HFIN.out v8 w8 ho8 hb8);clear ho8 hb8 y8 x1 hb7;go_wp2;go_roundw
             case rel=>exact⟨q+1,by omega,by go_num,HE⟩
             case measure=>simp[intOf];omega
     · obtain rfl:j=N:=by omega
       have HINS:=hid (Zho (L:=L) (j:=j) (f:=xf) (a:=xa) (by rw[<-HNN.out];exact hj) hno (fun z hz=>by rw[List.getElem?_eq_none (by rw[<-HNN.out];exact Nat.le_refl _)]at hz;cases hz));have HBW:=hid hbw;obtain⟨A2,m2,k2,HA2,hm2,hsb⟩:∃A2 m2 k2,Hid ((if PC=j then PA else Option.map (fun a:Addr=>a.add (j*4)) PA)=A2/\j-j=m2/\PC-j=k2)/\m2<=1073741823/\RL w1 w1.heap.size A2 m2 ((L.map ZT).drop j):=⟨_,_,_,hid ⟨rfl,rfl,rfl⟩,by omega,HOW.out.2.2.back (j:=j) hj hPC⟩
       have hsf:=HOW.out.2.2.front (j:=j) hj;have hxk:Za7 ⟨xf,0,0,xa⟩:=⟨HOK.out.1.1,by show B64 0;unfold B64;omega,by show B64 0;unfold B64;omega,HOK.out.1.2.2.2⟩
       have HIA:=hid (fun(wd:World) (hb:Below w1.heap.size w1 wd)=>ZqF (c1:=PC) (c2:=k2) (x:=⟨xf,0,0,xa⟩) hb hsf hsb hxk (by omega) hm2);have HIB:=hid (fun(wd:World) (hb:Below w1.heap.size w1 wd)=>ZqG (c1:=PC) (c2:=k2) (x:=⟨xf,0,0,xa⟩) hb hsf hsb hxk (by omega) hm2);have HSX:=hid (fun(W:World) (hb:Below w1.heap.size w1 W)=>And.intro ((hb.cell (p:=⟨b,off+q*4,none⟩) HBLT.out).trans HC.out.1) ((hb.cell (p:=⟨b,off+q*4+3,none⟩) HBLT.out).trans HC.out.2));have HFIN:=hid (fun(v8:Value) (w8:World) (ho:Z8 w8 w1.heap.size v8 ((L.map ZT).take j++[⟨xf,0,0,xa⟩]++(L.map ZT).drop j)) (hb:Below w1.heap.size w1 w8)=>HNX.out w8 v8 ⟨by rw[HINS.out,List.map_append,List.map_append,<-List.map_take,<-List.map_drop]at *;exact ho.base_le HOW.out.2.1.size,HOW.out.2.1.trans (hb.mono HOW.out.2.1.size)⟩);have hjj:¬((j:Int)<(j:Int)):=by omega
       clear hsb hsf hxk hm2 hno hbw HM;go_wp2_with fail
       go_quiet (fail)
       revert nq
       intro nq1;go_wp2_with fail
       go_quiet (fail)
       go_wp2_with fail;obtain⟨wd,hwd⟩:∃wd,wd=(W.drewN nq1).drewN nq:=⟨_,rfl⟩
       have HBD:=hid (show Below w1.heap.size w1 wd by rw[hwd];exact ZaL (ZaL HBW.out _) _);rw[<-hwd];clear hwd
       replace HIA:=hid (HIA.out wd HBD.out)
       replace HIB:=hid (HIB.out wd HBD.out)
       have hk0:(0:Int)<=(j:Int):=by omega
       have hkc:(j:Int)<=(PC:Int):=by omega
       have hkn:(j:Int)<=(j:Int):=by omega
       have x1:wd.drew.cell? ⟨b,off+q*4,none⟩=some (.int .i64 xf)/\wd.drew.cell? ⟨b,off+q*4+3,none⟩=some (.int .i64 xa):=HSX.out _ HBD.out.drew;refine wp_region_any (by rfl) ?_;change wpAny _ _ _ _ _ _ _ wd.drew;refine ZaP (S:=fun wz=>wz.cell? ⟨b,off+q*4,none⟩=some (.int .i64 xf)/\wz.cell? ⟨b,off+q*4+3,none⟩=some (.int .i64 xa)) (z:=21) _ _ _ _ ?_;refine Zb (i:=0) (oi:={dst:=some 63,op:=_,type:=_,pos:=_,after:=_,guard:=_}) (v:=.slice PA j PC) rfl (by decide) (by kernel_rfl) (by kernel_rfl) (by kernel_rfl) (by kernel_rfl) (fun _ _ _ h=>h) (Or.inl ⟨by rfl,fun wz hS=>?_⟩) x1 ?_
       · obtain⟨y1,y2⟩:=hS
         go_simp
         all_goals first|omega|simp[Addr.add]
       try simp only[Act.put,List.setIfInBounds_toArray,List.set_cons_zero,List.set_cons_succ]
       refine Zb (i:=1) (oi:={dst:=some 64,op:=_,type:=_,pos:=_,after:=_,guard:=_}) (v:=.int .i64 ((j:Nat):Int)) rfl (by decide) (by kernel_rfl) (by kernel_rfl) (by kernel_rfl) (by kernel_rfl) (fun _ _ _ h=>h) (Or.inl ⟨by rfl,fun wz hS=>?_⟩) x1 ?_
       · obtain⟨y1,y2⟩:=hS
         go_simp
         all_goals first|omega|simp[Addr.add]
       try simp only[Act.put,List.setIfInBounds_toArray,List.set_cons_zero,List.set_cons_succ]
       refine Zb (i:=2) (oi:={dst:=some 65,op:=_,type:=_,pos:=_,after:=_,guard:=_}) (v:=.slice PA j PC) rfl (by decide) (by kernel_rfl) (by kernel_rfl) (by kernel_rfl) (by kernel_rfl) (fun _ _ _ h=>h) (Or.inl ⟨by rfl,fun wz hS=>?_⟩) x1 ?_
       · obtain⟨y1,y2⟩:=hS
         go_simp
         all_goals first|omega|simp[Addr.add]
       try simp only[Act.put,List.setIfInBounds_toArray,List.set_cons_zero,List.set_cons_succ]
       refine Zb (i:=4) (oi:={dst:=some 67,op:=_,type:=_,pos:=_,after:=_,guard:=_}) (v:=.slice (some ⟨b,off,none⟩) n k) rfl (by decide) (by kernel_rfl) (by kernel_rfl) (by kernel_rfl) (by kernel_rfl) (fun _ _ _ h=>h) (Or.inl ⟨by rfl,fun wz hS=>?_⟩) x1 ?_
       · obtain⟨y1,y2⟩:=hS
         go_simp
         all_goals first|omega|simp[Addr.add]
       try simp only[Act.put,List.setIfInBounds_toArray,List.set_cons_zero,List.set_cons_succ]
       refine Zb (i:=5) (oi:={dst:=some 68,op:=_,type:=_,pos:=_,after:=_,guard:=_}) (v:=.int .i64 ((q:Nat):Int)) rfl (by decide) (by kernel_rfl) (by kernel_rfl) (by kernel_rfl) (by kernel_rfl) (fun _ _ _ h=>h) (Or.inl ⟨by rfl,fun wz hS=>?_⟩) x1 ?_
       · obtain⟨y1,y2⟩:=hS
         go_simp
         all_goals first|omega|simp[Addr.add]
       try simp only[Act.put,List.setIfInBounds_toArray,List.set_cons_zero,List.set_cons_succ]
       refine Zb (i:=6) (oi:={dst:=some 69,op:=_,type:=_,pos:=_,after:=_,guard:=_}) (v:=.pointer (some ⟨b,off+q*4,none⟩)) rfl (by decide) (by kernel_rfl) (by kernel_rfl) (by kernel_rfl) (by kernel_rfl) (fun _ _ _ h=>h) (Or.inl ⟨by rfl,fun wz hS=>?_⟩) x1 ?_
       · obtain⟨y1,y2⟩:=hS
         go_simp
         all_goals first|omega|simp[Addr.add]
       try simp only[Act.put,List.setIfInBounds_toArray,List.set_cons_zero,List.set_cons_succ]
       refine Zb (i:=7) (oi:={dst:=some 70,op:=_,type:=_,pos:=_,after:=_,guard:=_}) (v:=.pointer (some ⟨b,off+q*4,none⟩)) rfl (by decide) (by kernel_rfl) (by kernel_rfl) (by kernel_rfl) (by kernel_rfl) (fun _ _ _ h=>h) (Or.inl ⟨by rfl,fun wz hS=>?_⟩) x1 ?_
       · obtain⟨y1,y2⟩:=hS
         go_simp
         all_goals first|omega|simp[Addr.add]
       try simp only[Act.put,List.setIfInBounds_toArray,List.set_cons_zero,List.set_cons_succ]
       refine Zb (i:=8) (oi:={dst:=some 71,op:=_,type:=_,pos:=_,after:=_,guard:=_}) (v:=.int .i64 xf) rfl (by decide) (by kernel_rfl) (by kernel_rfl) (by kernel_rfl) (by kernel_rfl) (fun _ _ _ h=>h) (Or.inl ⟨by rfl,fun wz hS=>?_⟩) x1 ?_
       · obtain⟨y1,y2⟩:=hS
         go_simp
         all_goals first|omega|simp[Addr.add]
       try simp only[Act.put,List.setIfInBounds_toArray,List.set_cons_zero,List.set_cons_succ]
       refine Zb (i:=9) (oi:={dst:=some 72,op:=_,type:=_,pos:=_,after:=_,guard:=_}) (v:=.slice (some ⟨b,off,none⟩) n k) rfl (by decide) (by kernel_rfl) (by kernel_rfl) (by kernel_rfl) (by kernel_rfl) (fun _ _ _ h=>h) (Or.inl ⟨by rfl,fun wz hS=>?_⟩) x1 ?_
       · obtain⟨y1,y2⟩:=hS
         go_simp
         all_goals first|omega|simp[Addr.add]
       try simp only[Act.put,List.setIfInBounds_toArray,List.set_cons_zero,List.set_cons_succ]
       refine Zb (i:=10) (oi:={dst:=some 73,op:=_,type:=_,pos:=_,after:=_,guard:=_}) (v:=.int .i64 ((q:Nat):Int)) rfl (by decide) (by kernel_rfl) (by kernel_rfl) (by kernel_rfl) (by kernel_rfl) (fun _ _ _ h=>h) (Or.inl ⟨by rfl,fun wz hS=>?_⟩) x1 ?_
       · obtain⟨y1,y2⟩:=hS
         go_simp
         all_goals first|omega|simp[Addr.add]
       try simp only[Act.put,List.setIfInBounds_toArray,List.set_cons_zero,List.set_cons_succ]
       refine Zb (i:=11) (oi:={dst:=some 74,op:=_,type:=_,pos:=_,after:=_,guard:=_}) (v:=.pointer (some ⟨b,off+q*4,none⟩)) rfl (by decide) (by kernel_rfl) (by kernel_rfl) (by kernel_rfl) (by kernel_rfl) (fun _ _ _ h=>h) (Or.inl ⟨by rfl,fun wz hS=>?_⟩) x1 ?_
       · obtain⟨y1,y2⟩:=hS
         go_simp
         all_goals first|omega|simp[Addr.add]
       try simp only[Act.put,List.setIfInBounds_toArray,List.set_cons_zero,List.set_cons_succ]
       refine Zb (i:=12) (oi:={dst:=some 75,op:=_,type:=_,pos:=_,after:=_,guard:=_}) (v:=.pointer (some ⟨b,off+q*4+3,none⟩)) rfl (by decide) (by kernel_rfl) (by kernel_rfl) (by kernel_rfl) (by kernel_rfl) (fun _ _ _ h=>h) (Or.inl ⟨by rfl,fun wz hS=>?_⟩) x1 ?_
       · obtain⟨y1,y2⟩:=hS
         go_simp
         all_goals first|omega|simp[Addr.add]
       try simp only[Act.put,List.setIfInBounds_toArray,List.set_cons_zero,List.set_cons_succ]
       refine Zb (i:=13) (oi:={dst:=some 76,op:=_,type:=_,pos:=_,after:=_,guard:=_}) (v:=.int .i64 xa) rfl (by decide) (by kernel_rfl) (by kernel_rfl) (by kernel_rfl) (by kernel_rfl) (fun _ _ _ h=>h) (Or.inl ⟨by rfl,fun wz hS=>?_⟩) x1 ?_
       · obtain⟨y1,y2⟩:=hS
         go_simp
         all_goals first|omega|simp[Addr.add]
       try simp only[Act.put,List.setIfInBounds_toArray,List.set_cons_zero,List.set_cons_succ]
       refine Zb (i:=14) (oi:={dst:=some 77,op:=_,type:=_,pos:=_,after:=_,guard:=_}) (v:=.agg #[.int .i64 xf,.int .i64 0,.int .i64 0,.int .i64 xa]) rfl (by decide) (by kernel_rfl) (by kernel_rfl) (by kernel_rfl) (by kernel_rfl) (fun _ _ _ h=>h) (Or.inl ⟨by rfl,fun wz hS=>?_⟩) x1 ?_
       · obtain⟨y1,y2⟩:=hS
         go_simp
         all_goals first|omega|simp[Addr.add]
       try simp only[Act.put,List.setIfInBounds_toArray,List.set_cons_zero,List.set_cons_succ]
       refine Zb (i:=17) (oi:={dst:=some 80,op:=_,type:=_,pos:=_,after:=_,guard:=_}) (v:=.slice PA j PC) rfl (by decide) (by kernel_rfl) (by kernel_rfl) (by kernel_rfl) (by kernel_rfl) (fun _ _ _ h=>h) (Or.inl ⟨by rfl,fun wz hS=>?_⟩) x1 ?_
       · obtain⟨y1,y2⟩:=hS
         go_simp
         all_goals first|omega|simp[Addr.add]
       try simp only[Act.put,List.setIfInBounds_toArray,List.set_cons_zero,List.set_cons_succ]
       refine Zb (i:=18) (oi:={dst:=some 81,op:=_,type:=_,pos:=_,after:=_,guard:=_}) (v:=.int .i64 ((j:Nat):Int)) rfl (by decide) (by kernel_rfl) (by kernel_rfl) (by kernel_rfl) (by kernel_rfl) (fun _ _ _ h=>h) (Or.inl ⟨by rfl,fun wz hS=>?_⟩) x1 ?_
       · obtain⟨y1,y2⟩:=hS
         go_simp
         all_goals first|omega|simp[Addr.add]
       try simp only[Act.put,List.setIfInBounds_toArray,List.set_cons_zero,List.set_cons_succ]
       refine Zb (i:=19) (oi:={dst:=some 82,op:=_,type:=_,pos:=_,after:=_,guard:=_}) (v:=.slice A2 m2 k2) rfl (by decide) (by kernel_rfl) (by kernel_rfl) (by kernel_rfl) (by kernel_rfl) (fun _ _ _ h=>h) (Or.inl ⟨by rfl,fun wz hS=>?_⟩) x1 ?_
       · obtain⟨y1,y2⟩:=hS;obtain⟨e1,e2,e3⟩:=HA2.out;subst e1 e2 e3
         go_simp
         all_goals first|omega|simp[Addr.add]
       try simp only[Act.put,List.setIfInBounds_toArray,List.set_cons_zero,List.set_cons_succ]
       refine ZcA (j:=3) (k:=15) (o:={dst:=some 66,op:=_,type:=_,pos:=_,after:=_,guard:=none}) (o':={dst:=some 78,op:=_,type:=_,pos:=_,after:=_,guard:=none}) rfl rfl (by kernel_rfl) (by decide) (by decide) ?_ ?_
       · intro K1 hK1;obtain⟨v6,w6,hr6,hb6,hba,hE⟩:=HIA.out;refine Zs (by rfl) (.const (.slice none 0 0)) (.tmp 65) _ _ (by rfl) _ _ (by rfl) (by rfl) hr6 ?_;refine hK1 _ _ (HSX.out _ hb6) ?_;clear hK1 K1 hr6
         try simp only[Act.put,List.setIfInBounds_toArray,List.set_cons_zero,List.set_cons_succ]
         refine Zl (j:=15) (o:={dst:=some 78,op:=_,type:=_,pos:=_,after:=_,guard:=none}) rfl (by kernel_rfl) (by decide) ?_;intro K1 hK1;rw[if_pos (by rfl)]
         go_simp
         refine hK1 _ _ (HSX.out _ hba) ?_;clear hK1 K1;generalize w6.alloc (.cells #[.int .i64 xf,.int .i64 0,.int .i64 0,.int .i64 xa] 34 (0,0))=W at hba hE ⊢;generalize w6.heap.size=gl at hE ⊢
         try simp only[Act.put,List.setIfInBounds_toArray,List.set_cons_zero,List.set_cons_succ]
         obtain⟨v7,w7,hr7,hb7,v8,w8,hr8,hb8,ho8⟩:=hE;refine Zl (j:=16) (o:={dst:=some 79,op:=_,type:=_,pos:=_,after:=_,guard:=none}) rfl (by kernel_rfl) (by decide) ?_;intro K1 hK1;refine Zs (by rfl) (.tmp 66) (.tmp 78) _ _ (by rfl) _ _ (by rfl) (by rfl) hr7 ?_;refine hK1 _ _ (HSX.out _ hb7) ?_;clear hK1 K1 hr7
         try simp only[Act.put,List.setIfInBounds_toArray,List.set_cons_zero,List.set_cons_succ]
         refine Zl (j:=20) (o:={dst:=some 83,op:=_,type:=_,pos:=_,after:=_,guard:=none}) rfl (by kernel_rfl) (by decide) ?_;intro K1 hK1;refine Zs (by rfl) (.tmp 79) (.tmp 82) _ _ (by rfl) _ _ (by rfl) (by rfl) hr8 ?_;have y8:=HSX.out _ hb8;refine hK1 _ _ y8 ?_;clear hK1 K1 hr8
         try simp only[Act.put,List.setIfInBounds_toArray,List.set_cons_zero,List.set_cons_succ]
         refine Z4 (o:={dst:=some 3,op:=_,type:=_,pos:=_,after:=_,guard:=_}) rfl (by kernel_rfl) ?_;intro K1 hK1;rw[if_pos (by rfl)]
         go_simp
         refine hK1 _ _ ?_;clear hK1 K1;refine wpAny_done (by kernel_rfl) ?_ _;have HE:=hid (HFIN.out v8 w8 ho8 hb8);clear ho8 hb8 y8 x1 hb7;go_wp2;go_roundw
         case rel=>exact⟨q+1,by omega,by go_num,HE⟩
         case measure=>simp[intOf];omega
       · intro K1 hK1;obtain⟨hbd,v6,w6,hr6,hb6,hE⟩:=HIB.out;rw[if_pos (by rfl)]
         go_simp
         refine hK1 _ _ (HSX.out _ hbd) ?_;clear hK1 K1
         try simp only[Act.put,List.setIfInBounds_toArray,List.set_cons_zero,List.set_cons_succ]
         refine Zl (j:=3) (o:={dst:=some 66,op:=_,type:=_,pos:=_,after:=_,guard:=none}) rfl (by kernel_rfl) (by decide) ?_;intro K1 hK1;refine Zs (by rfl) (.const (.slice none 0 0)) (.tmp 65) _ _ (by rfl) _ _ (by rfl) (by rfl) hr6 ?_;refine hK1 _ _ (HSX.out _ hb6) ?_;clear hK1 K1 hr6 hbd;generalize w6=W at hE ⊢;generalize wd.heap.size=gl at hE ⊢
         try simp only[Act.put,List.setIfInBounds_toArray,List.set_cons_zero,List.set_cons_succ]
         obtain⟨v7,w7,hr7,hb7,v8,w8,hr8,hb8,ho8⟩:=hE;refine Zl (j:=16) (o:={dst:=some 79,op:=_,type:=_,pos:=_,after:=_,guard:=none}) rfl (by kernel_rfl) (by decide) ?_;intro K1 hK1;refine Zs (by rfl) (.tmp 66) (.tmp 78) _ _ (by rfl) _ _ (by rfl) (by rfl) hr7 ?_;refine hK1 _ _ (HSX.out _ hb7) ?_;clear hK1 K1 hr7
         try simp only[Act.put,List.setIfInBounds_toArray,List.set_cons_zero,List.set_cons_succ]
         refine Zl (j:=20) (o:={dst:=some 83,op:=_,type:=_,pos:=_,after:=_,guard:=none}) rfl (by kernel_rfl) (by decide) ?_;intro K1 hK1;refine Zs (by rfl) (.tmp 79) (.tmp 82) _ _ (by rfl) _ _ (by rfl) (by rfl) hr8 ?_;have y8:=HSX.out _ hb8;refine hK1 _ _ y8 ?_;clear hK1 K1 hr8
         try simp only[Act.put,List.setIfInBounds_toArray,List.set_cons_zero,List.set_cons_succ]
         refine Z4 (o:={dst:=some 3,op:=_,type:=_,pos:=_,after:=_,guard:=_}) rfl (by kernel_rfl) ?_;intro K1 hK1;rw[if_pos (by rfl)]
         go_simp
         refine hK1 _ _ ?_;clear hK1 K1;refine wpAny_done (by kernel_rfl) ?_ _;have HE:=hid (HFIN.out v8 w8 ho8 hb8);clear ho8 hb8 y8 x1 hb7;go_wp2;go_roundw
         case rel=>exact⟨q+1,by omega,by go_num,HE⟩
         case measure=>simp[intOf];omega
  · obtain rfl:q=n:=by omega
    have HE:=hid (show Z8 wr w.heap.size _ ((fundsOf l).map ZT)/\Below w.heap.size w wr from⟨by have h1:=HI.out.1;rwa[List.take_of_length_le (by rw[HR.out.1.len];exact Nat.le_refl _)]at h1,HI.out.2⟩);obtain⟨PA,PC,rfl,_⟩:=HE.out.1.shape;clear HI;go_wp2;go_ret;exact⟨_,rfl,HE.out⟩
end
theorem Zl5{L:FL}{j:Nat}{x:Ln}(h:(L.map ZT)[j]?=some x):∃p,L[j]?=some p/\x=ZT p:=by
 rw[List.getElem?_map]at h;obtain⟨p,h1,h2⟩:=Option.map_eq_some_iff.1 h;exact⟨p,h1,h2.symm⟩
theorem Zl6{L:FL}{j:Nat}{p:Int×Int}(h:L[j]?=some p):balL (L.take (j+1))=balL (L.take j)++(Zlx p).toList:=by
 obtain⟨hj,rfl⟩:=List.getElem?_eq_some_iff.1 h;unfold balL;rw[List.take_succ_eq_append_getElem hj,List.filterMap_append]
 congr 1
section
variable{w w':World}{A A':Option Addr}{n m k B B':Nat}{l l':List Ln}
theorem ZfP(hr:RL w B A n l)(hB:B<=w.heap.size)(hn:n<=1073741823) :
 Calls prog 210 #[.slice A n k] w fun e w'=>∃u,e=.returned u/\Z8 w' w.heap.size u (balL (fundsOf l))/\Below w.heap.size w w':=by
 have HF:=hid (ZiM (k:=k) hr hB hn);have HL:=hid (And.intro (ZaO l hr.ok) (show(fundsOf l).length<=n by rw[<-hr.len];exact Zah l));generalize fundsOf l=L at HF HL ⊢;clear hr hB;go_enter func210,ntmps210;go_wp2_with fail;refine HF.out.mono ?_;rintro e w1⟨u1,rfl,ho1,hb1⟩;obtain⟨A1,c1,rfl,hc1⟩:=ho1.shape;rw[List.length_map]at ho1 hc1 ⊢;obtain⟨_,_,hr1⟩:=ho1.read (Zgq HL.out.1);obtain⟨N,hN⟩:∃N,N=L.length:=⟨_,rfl⟩
 have HNN:=hid hN;rw[<-hN]at hr1 hc1 ⊢;have HR1:=hid hr1;have HB1:=hid hb1;have hNn:N<=n:=by rw[hN];exact HL.out.2
 clear ho1 hr1 hb1 hN HF;go_wp2_with fail
 go_loopw[3,5] (fun u i wr=>∃j:Nat,j<=N/\i=.int .i64 j/\Hid (Z8 wr w1.heap.size u (balL (L.take j))/\Below w1.heap.size w1 wr)) (fun _ i _=>N-(intOf i).toNat)
 case atStart=>exact⟨0,Nat.zero_le _,rfl,hid ⟨by rw[List.take_zero];exact Z8.start _ _,Below.refl _ _⟩⟩
 case round=>
  obtain⟨j,hj,rfl,HI⟩:=hrel;by_cases hlt:j<N
  · have hlt':(j:Int)<(N:Int):=by omega
    obtain⟨hown,hb⟩:=HI.out;obtain⟨x,hx⟩:∃x,(L.map ZT)[j]?=some x:=⟨_,List.getElem?_eq_getElem (by rw[List.length_map,<-HNN.out];exact hlt)⟩
    obtain⟨b,off,rfl,hbB,hat⟩:=HR1.out.2.2 (by omega);have hbl:=Nat.lt_of_lt_of_le hbB hb.size;obtain⟨c0,c1',c2,c3⟩:=(hat j x hx).keep hbB (fun b o hbb=>hb.cell (p:=⟨b,o,none⟩) hbb);obtain⟨⟨f,s⟩,hp,rfl⟩:=Zl5 hx;simp only[ZT]at c0 c1' c2 c3;have hin:=HL.out.1 _ (List.mem_of_getElem? hp);have hstep:=Zl6 hp;have hll:(balL (L.take j)).length<=j:=Nat.le_trans (Zb5 _) (by rw[List.length_take];exact Nat.min_le_left _ _);obtain⟨PA,PK,rfl,_⟩:=hown.shape;by_cases hz:s=0
    · subst hz;have HE:=hid (show Z8 wr w1.heap.size (.slice PA (balL (L.take j)).length PK) (balL (L.take (j+1)))/\Below w1.heap.size w1 wr from⟨by rw[hstep];unfold Zlx;rw[if_pos rfl];show Z8 wr _ _ (_++[]);rw[List.append_nil];exact hown,hb⟩);clear hown hb hx hat hp hin hstep hll HI;go_wp2;go_roundw
      case rel=>exact⟨j+1,by omega,by go_num,HE⟩
      case measure=>simp[intOf];omega
    · obtain⟨z,hz'⟩:∃z,IntKind.i64.wrap (-s)=z:=⟨_,rfl⟩
      obtain⟨d,hd⟩:∃d,ZeP s=d:=⟨_,rfl⟩
      have hok:Za7 ⟨f,d,0,z⟩:=ZdK (L:=[(f,s)]) (fun p hp=>by obtain rfl:=List.mem_singleton.1 hp;exact hin) _ (by unfold balL Zlx;simp only[List.filterMap_cons,if_neg hz,hd,hz'];exact List.mem_singleton.2 rfl);have hX:Below wr.heap.size wr (wr.drew.alloc (.cells #[.int .i64 f,.int .i64 d,.int .i64 0,.int .i64 z] 34 (0,0))):=(Below.refl _ _).drew.alloc (Nat.le_refl _) _;obtain⟨v',w6,hrun,hown6,hb6,hg6,_⟩:=(hown.below hX).append1 (x:=⟨f,d,0,z⟩) (heap_alloc_new wr.drew _) hok (by omega) (Nat.le_trans hb.size hX.size) 35;have hno:∀k,(Value.slice PA (balL (L.take j)).length PK).ownBlock=some k->w1.heap.size<=k:=fun k hk=>(hown.at_ k hk).1
      have x1:wr.drew.cell? ⟨b,off+j*4,none⟩=some (.int .i64 f)/\wr.drew.cell? ⟨b,off+j*4+3,none⟩=some (.int .i64 s):=⟨c0,c3⟩
      have x2:(wr.drew.alloc (.cells #[.int .i64 f,.int .i64 d,.int .i64 0,.int .i64 z] 34 (0,0))).cell? ⟨b,off+j*4,none⟩=some (.int .i64 f)/\(wr.drew.alloc (.cells #[.int .i64 f,.int .i64 d,.int .i64 0,.int .i64 z] 34 (0,0))).cell? ⟨b,off+j*4+3,none⟩=some (.int .i64 s):=⟨(hX.cell (p:=⟨b,off+j*4,none⟩) hbl).trans c0,(hX.cell (p:=⟨b,off+j*4+3,none⟩) hbl).trans c3⟩
      have hb16:=(hX.mono hb.size).trans hb6;have x3:w6.cell? ⟨b,off+j*4,none⟩=some (.int .i64 f)/\w6.cell? ⟨b,off+j*4+3,none⟩=some (.int .i64 s):=⟨(hb16.cell (p:=⟨b,off+j*4,none⟩) hbB).trans c0,(hb16.cell (p:=⟨b,off+j*4+3,none⟩) hbB).trans c3⟩
      have HE:=hid (show Z8 w6 w1.heap.size v' (balL (L.take (j+1)))/\Below w1.heap.size w1 w6 from⟨by rw[hstep];unfold Zlx;rw[if_neg hz];simp only[hd,hz'];exact hown6,hb.trans hb16⟩);have HRUN:=hid hrun;have HX3:=hid x3;clear hown hb hx hat hp hin hstep hX HI hok hown6 hb6 hg6 hrun hb16 hno;by_cases hpos:0<s
      · have hd2:d=2900:=by rw[<-hd];unfold ZeP;rw[if_pos hpos]
        subst hd2;have hneg:¬s<0:=by omega
        clear hd;go_wp2_with fail;refine wp_region_any (by rfl) ?_;change wpAny _ _ _ _ _ _ _ wr.drew;refine ZaP (S:=fun wz=>wz.cell? ⟨b,off+j*4,none⟩=some (.int .i64 f)/\wz.cell? ⟨b,off+j*4+3,none⟩=some (.int .i64 s)) (z:=15) _ _ _ _ ?_;refine Zb (i:=0) (oi:={dst:=some 20,op:=_,type:=_,pos:=_,after:=_,guard:=_}) (v:=.slice PA (balL (L.take j)).length PK) rfl (by decide) (by kernel_rfl) (by kernel_rfl) (by kernel_rfl) (by kernel_rfl) (fun _ _ _ h=>h) (Or.inl ⟨by rfl,fun wz hS=>?_⟩) x1 ?_
        · obtain⟨y1,y2⟩:=hS
          go_simp
          all_goals first|omega|simp[Addr.add]
        try simp only[Act.put,List.setIfInBounds_toArray,List.set_cons_zero,List.set_cons_succ]
        refine Zb (i:=1) (oi:={dst:=some 21,op:=_,type:=_,pos:=_,after:=_,guard:=_}) (v:=.slice (some ⟨b,off,none⟩) N c1) rfl (by decide) (by kernel_rfl) (by kernel_rfl) (by kernel_rfl) (by kernel_rfl) (fun _ _ _ h=>h) (Or.inl ⟨by rfl,fun wz hS=>?_⟩) x1 ?_
        · obtain⟨y1,y2⟩:=hS
          go_simp
          all_goals first|omega|simp[Addr.add]
        try simp only[Act.put,List.setIfInBounds_toArray,List.set_cons_zero,List.set_cons_succ]
        refine Zb (i:=2) (oi:={dst:=some 22,op:=_,type:=_,pos:=_,after:=_,guard:=_}) (v:=.int .i64 ((j:Nat):Int)) rfl (by decide) (by kernel_rfl) (by kernel_rfl) (by kernel_rfl) (by kernel_rfl) (fun _ _ _ h=>h) (Or.inl ⟨by rfl,fun wz hS=>?_⟩) x1 ?_
        · obtain⟨y1,y2⟩:=hS
          go_simp
          all_goals first|omega|simp[Addr.add]
        try simp only[Act.put,List.setIfInBounds_toArray,List.set_cons_zero,List.set_cons_succ]
        refine Zb (i:=3) (oi:={dst:=some 23,op:=_,type:=_,pos:=_,after:=_,guard:=_}) (v:=.pointer (some ⟨b,off+j*4,none⟩)) rfl (by decide) (by kernel_rfl) (by kernel_rfl) (by kernel_rfl) (by kernel_rfl) (fun _ _ _ h=>h) (Or.inl ⟨by rfl,fun wz hS=>?_⟩) x1 ?_
        · obtain⟨y1,y2⟩:=hS
          go_simp
          all_goals first|omega|simp[Addr.add]
        try simp only[Act.put,List.setIfInBounds_toArray,List.set_cons_zero,List.set_cons_succ]
        refine Zb (i:=4) (oi:={dst:=some 24,op:=_,type:=_,pos:=_,after:=_,guard:=_}) (v:=.pointer (some ⟨b,off+j*4,none⟩)) rfl (by decide) (by kernel_rfl) (by kernel_rfl) (by kernel_rfl) (by kernel_rfl) (fun _ _ _ h=>h) (Or.inl ⟨by rfl,fun wz hS=>?_⟩) x1 ?_
        · obtain⟨y1,y2⟩:=hS
          go_simp
          all_goals first|omega|simp[Addr.add]
        try simp only[Act.put,List.setIfInBounds_toArray,List.set_cons_zero,List.set_cons_succ]
        refine Zb (i:=5) (oi:={dst:=some 25,op:=_,type:=_,pos:=_,after:=_,guard:=_}) (v:=.int .i64 f) rfl (by decide) (by kernel_rfl) (by kernel_rfl) (by kernel_rfl) (by kernel_rfl) (fun _ _ _ h=>h) (Or.inl ⟨by rfl,fun wz hS=>?_⟩) x1 ?_
        · obtain⟨y1,y2⟩:=hS
          go_simp
          all_goals first|omega|simp[Addr.add]
        try simp only[Act.put,List.setIfInBounds_toArray,List.set_cons_zero,List.set_cons_succ]
        refine Zb (i:=6) (oi:={dst:=some 26,op:=_,type:=_,pos:=_,after:=_,guard:=_}) (v:=.slice (some ⟨b,off,none⟩) N c1) rfl (by decide) (by kernel_rfl) (by kernel_rfl) (by kernel_rfl) (by kernel_rfl) (fun _ _ _ h=>h) (Or.inl ⟨by rfl,fun wz hS=>?_⟩) x1 ?_
        · obtain⟨y1,y2⟩:=hS
          go_simp
          all_goals first|omega|simp[Addr.add]
        try simp only[Act.put,List.setIfInBounds_toArray,List.set_cons_zero,List.set_cons_succ]
        refine Zb (i:=7) (oi:={dst:=some 27,op:=_,type:=_,pos:=_,after:=_,guard:=_}) (v:=.int .i64 ((j:Nat):Int)) rfl (by decide) (by kernel_rfl) (by kernel_rfl) (by kernel_rfl) (by kernel_rfl) (fun _ _ _ h=>h) (Or.inl ⟨by rfl,fun wz hS=>?_⟩) x1 ?_
        · obtain⟨y1,y2⟩:=hS
          go_simp
          all_goals first|omega|simp[Addr.add]
        try simp only[Act.put,List.setIfInBounds_toArray,List.set_cons_zero,List.set_cons_succ]
        refine Zb (i:=8) (oi:={dst:=some 28,op:=_,type:=_,pos:=_,after:=_,guard:=_}) (v:=.pointer (some ⟨b,off+j*4,none⟩)) rfl (by decide) (by kernel_rfl) (by kernel_rfl) (by kernel_rfl) (by kernel_rfl) (fun _ _ _ h=>h) (Or.inl ⟨by rfl,fun wz hS=>?_⟩) x1 ?_
        · obtain⟨y1,y2⟩:=hS
          go_simp
          all_goals first|omega|simp[Addr.add]
        try simp only[Act.put,List.setIfInBounds_toArray,List.set_cons_zero,List.set_cons_succ]
        refine Zb (i:=9) (oi:={dst:=some 29,op:=_,type:=_,pos:=_,after:=_,guard:=_}) (v:=.pointer (some ⟨b,off+j*4+3,none⟩)) rfl (by decide) (by kernel_rfl) (by kernel_rfl) (by kernel_rfl) (by kernel_rfl) (fun _ _ _ h=>h) (Or.inl ⟨by rfl,fun wz hS=>?_⟩) x1 ?_
        · obtain⟨y1,y2⟩:=hS
          go_simp
          all_goals first|omega|simp[Addr.add]
        try simp only[Act.put,List.setIfInBounds_toArray,List.set_cons_zero,List.set_cons_succ]
        refine Zb (i:=10) (oi:={dst:=some 30,op:=_,type:=_,pos:=_,after:=_,guard:=_}) (v:=.int .i64 s) rfl (by decide) (by kernel_rfl) (by kernel_rfl) (by kernel_rfl) (by kernel_rfl) (fun _ _ _ h=>h) (Or.inl ⟨by rfl,fun wz hS=>?_⟩) x1 ?_
        · obtain⟨y1,y2⟩:=hS
          go_simp
          all_goals first|omega|simp[Addr.add]
        try simp only[Act.put,List.setIfInBounds_toArray,List.set_cons_zero,List.set_cons_succ]
        refine Zb (i:=11) (oi:={dst:=some 31,op:=_,type:=_,pos:=_,after:=_,guard:=_}) (v:=.int .i64 z) rfl (by decide) (by kernel_rfl) (by kernel_rfl) (by kernel_rfl) (by kernel_rfl) (fun _ _ _ h=>h) (Or.inl ⟨by rfl,fun wz hS=>?_⟩) x1 ?_
        · obtain⟨y1,y2⟩:=hS
          go_simp
          all_goals first|omega|simp[Addr.add]
        try simp only[Act.put,List.setIfInBounds_toArray,List.set_cons_zero,List.set_cons_succ]
        refine Zb (i:=12) (oi:={dst:=some 32,op:=_,type:=_,pos:=_,after:=_,guard:=_}) (v:=.agg #[.int .i64 f,.int .i64 2900,.int .i64 0,.int .i64 z]) rfl (by decide) (by kernel_rfl) (by kernel_rfl) (by kernel_rfl) (by kernel_rfl) (fun _ _ _ h=>h) (Or.inl ⟨by rfl,fun wz hS=>?_⟩) x1 ?_
        · obtain⟨y1,y2⟩:=hS
          go_simp
          all_goals first|omega|simp[Addr.add]
        try simp only[Act.put,List.setIfInBounds_toArray,List.set_cons_zero,List.set_cons_succ]
        refine Zl (j:=13) (o:={dst:=some 33,op:=_,type:=_,pos:=_,after:=_,guard:=_}) rfl (by kernel_rfl) (by decide) ?_;intro K1 hK1;rw[if_pos (by rfl)]
        go_simp
        refine hK1 _ _ x2 ?_;clear hK1 K1
        try simp only[Act.put,List.setIfInBounds_toArray,List.set_cons_zero,List.set_cons_succ]
        refine Zl (j:=14) (o:={dst:=some 34,op:=_,type:=_,pos:=_,after:=_,guard:=none}) rfl (by kernel_rfl) (by decide) ?_;intro K1 hK1;refine Zs (by rfl) (.tmp 20) (.tmp 33) _ _ (by rfl) _ _ (by rfl) (by rfl) HRUN.out ?_;refine hK1 _ _ x3 ?_;clear hK1 K1
        try simp only[Act.put,List.setIfInBounds_toArray,List.set_cons_zero,List.set_cons_succ]
        refine Z4 (o:={dst:=some 3,op:=_,type:=_,pos:=_,after:=_,guard:=_}) rfl (by kernel_rfl) ?_;intro K1 hK1;rw[if_pos (by rfl)]
        go_simp
        refine hK1 _ _ ?_;clear hK1 K1;refine wpAny_done (by kernel_rfl) ?_ _;clear x1 x2 x3;obtain⟨x4,x5⟩:=(show w6.cell? ⟨b,off+j*4,none⟩=some (.int .i64 f)/\w6.cell? ⟨b,off+j*4+3,none⟩=some (.int .i64 s)from HX3.out)
        go_wp2;go_roundw
        case rel=>exact⟨j+1,by omega,by go_num,HE⟩
        case measure=>simp[intOf];omega
      · have hd2:d=1900:=by rw[<-hd];unfold ZeP;rw[if_neg hpos]
        subst hd2;have hneg:s<0:=by omega
        clear hd;go_wp2_with fail;refine wp_region_any (by rfl) ?_;change wpAny _ _ _ _ _ _ _ wr.drew;refine ZaP (S:=fun wz=>wz.cell? ⟨b,off+j*4,none⟩=some (.int .i64 f)/\wz.cell? ⟨b,off+j*4+3,none⟩=some (.int .i64 s)) (z:=15) _ _ _ _ ?_;refine Zb (i:=0) (oi:={dst:=some 41,op:=_,type:=_,pos:=_,after:=_,guard:=_}) (v:=.slice PA (balL (L.take j)).length PK) rfl (by decide) (by kernel_rfl) (by kernel_rfl) (by kernel_rfl) (by kernel_rfl) (fun _ _ _ h=>h) (Or.inl ⟨by rfl,fun wz hS=>?_⟩) x1 ?_
        · obtain⟨y1,y2⟩:=hS
          go_simp
          all_goals first|omega|simp[Addr.add]
        try simp only[Act.put,List.setIfInBounds_toArray,List.set_cons_zero,List.set_cons_succ]
        refine Zb (i:=1) (oi:={dst:=some 42,op:=_,type:=_,pos:=_,after:=_,guard:=_}) (v:=.slice (some ⟨b,off,none⟩) N c1) rfl (by decide) (by kernel_rfl) (by kernel_rfl) (by kernel_rfl) (by kernel_rfl) (fun _ _ _ h=>h) (Or.inl ⟨by rfl,fun wz hS=>?_⟩) x1 ?_
        · obtain⟨y1,y2⟩:=hS
          go_simp
          all_goals first|omega|simp[Addr.add]
        try simp only[Act.put,List.setIfInBounds_toArray,List.set_cons_zero,List.set_cons_succ]
        refine Zb (i:=2) (oi:={dst:=some 43,op:=_,type:=_,pos:=_,after:=_,guard:=_}) (v:=.int .i64 ((j:Nat):Int)) rfl (by decide) (by kernel_rfl) (by kernel_rfl) (by kernel_rfl) (by kernel_rfl) (fun _ _ _ h=>h) (Or.inl ⟨by rfl,fun wz hS=>?_⟩) x1 ?_
        · obtain⟨y1,y2⟩:=hS
          go_simp
          all_goals first|omega|simp[Addr.add]
        try simp only[Act.put,List.setIfInBounds_toArray,List.set_cons_zero,List.set_cons_succ]
        refine Zb (i:=3) (oi:={dst:=some 44,op:=_,type:=_,pos:=_,after:=_,guard:=_}) (v:=.pointer (some ⟨b,off+j*4,none⟩)) rfl (by decide) (by kernel_rfl) (by kernel_rfl) (by kernel_rfl) (by kernel_rfl) (fun _ _ _ h=>h) (Or.inl ⟨by rfl,fun wz hS=>?_⟩) x1 ?_
        · obtain⟨y1,y2⟩:=hS
          go_simp
          all_goals first|omega|simp[Addr.add]
        try simp only[Act.put,List.setIfInBounds_toArray,List.set_cons_zero,List.set_cons_succ]
        refine Zb (i:=4) (oi:={dst:=some 45,op:=_,type:=_,pos:=_,after:=_,guard:=_}) (v:=.pointer (some ⟨b,off+j*4,none⟩)) rfl (by decide) (by kernel_rfl) (by kernel_rfl) (by kernel_rfl) (by kernel_rfl) (fun _ _ _ h=>h) (Or.inl ⟨by rfl,fun wz hS=>?_⟩) x1 ?_
        · obtain⟨y1,y2⟩:=hS
          go_simp
          all_goals first|omega|simp[Addr.add]
        try simp only[Act.put,List.setIfInBounds_toArray,List.set_cons_zero,List.set_cons_succ]
        refine Zb (i:=5) (oi:={dst:=some 46,op:=_,type:=_,pos:=_,after:=_,guard:=_}) (v:=.int .i64 f) rfl (by decide) (by kernel_rfl) (by kernel_rfl) (by kernel_rfl) (by kernel_rfl) (fun _ _ _ h=>h) (Or.inl ⟨by rfl,fun wz hS=>?_⟩) x1 ?_
        · obtain⟨y1,y2⟩:=hS
          go_simp
          all_goals first|omega|simp[Addr.add]
        try simp only[Act.put,List.setIfInBounds_toArray,List.set_cons_zero,List.set_cons_succ]
        refine Zb (i:=6) (oi:={dst:=some 47,op:=_,type:=_,pos:=_,after:=_,guard:=_}) (v:=.slice (some ⟨b,off,none⟩) N c1) rfl (by decide) (by kernel_rfl) (by kernel_rfl) (by kernel_rfl) (by kernel_rfl) (fun _ _ _ h=>h) (Or.inl ⟨by rfl,fun wz hS=>?_⟩) x1 ?_
        · obtain⟨y1,y2⟩:=hS
          go_simp
          all_goals first|omega|simp[Addr.add]
        try simp only[Act.put,List.setIfInBounds_toArray,List.set_cons_zero,List.set_cons_succ]
        refine Zb (i:=7) (oi:={dst:=some 48,op:=_,type:=_,pos:=_,after:=_,guard:=_}) (v:=.int .i64 ((j:Nat):Int)) rfl (by decide) (by kernel_rfl) (by kernel_rfl) (by kernel_rfl) (by kernel_rfl) (fun _ _ _ h=>h) (Or.inl ⟨by rfl,fun wz hS=>?_⟩) x1 ?_
        · obtain⟨y1,y2⟩:=hS
          go_simp
          all_goals first|omega|simp[Addr.add]
        try simp only[Act.put,List.setIfInBounds_toArray,List.set_cons_zero,List.set_cons_succ]
        refine Zb (i:=8) (oi:={dst:=some 49,op:=_,type:=_,pos:=_,after:=_,guard:=_}) (v:=.pointer (some ⟨b,off+j*4,none⟩)) rfl (by decide) (by kernel_rfl) (by kernel_rfl) (by kernel_rfl) (by kernel_rfl) (fun _ _ _ h=>h) (Or.inl ⟨by rfl,fun wz hS=>?_⟩) x1 ?_
        · obtain⟨y1,y2⟩:=hS
          go_simp
          all_goals first|omega|simp[Addr.add]
        try simp only[Act.put,List.setIfInBounds_toArray,List.set_cons_zero,List.set_cons_succ]
        refine Zb (i:=9) (oi:={dst:=some 50,op:=_,type:=_,pos:=_,after:=_,guard:=_}) (v:=.pointer (some ⟨b,off+j*4+3,none⟩)) rfl (by decide) (by kernel_rfl) (by kernel_rfl) (by kernel_rfl) (by kernel_rfl) (fun _ _ _ h=>h) (Or.inl ⟨by rfl,fun wz hS=>?_⟩) x1 ?_
        · obtain⟨y1,y2⟩:=hS
          go_simp
          all_goals first|omega|simp[Addr.add]
        try simp only[Act.put,List.setIfInBounds_toArray,List.set_cons_zero,List.set_cons_succ]
        refine Zb (i:=10) (oi:={dst:=some 51,op:=_,type:=_,pos:=_,after:=_,guard:=_}) (v:=.int .i64 s) rfl (by decide) (by kernel_rfl) (by kernel_rfl) (by kernel_rfl) (by kernel_rfl) (fun _ _ _ h=>h) (Or.inl ⟨by rfl,fun wz hS=>?_⟩) x1 ?_
        · obtain⟨y1,y2⟩:=hS
          go_simp
          all_goals first|omega|simp[Addr.add]
        try simp only[Act.put,List.setIfInBounds_toArray,List.set_cons_zero,List.set_cons_succ]
        refine Zb (i:=11) (oi:={dst:=some 52,op:=_,type:=_,pos:=_,after:=_,guard:=_}) (v:=.int .i64 z) rfl (by decide) (by kernel_rfl) (by kernel_rfl) (by kernel_rfl) (by kernel_rfl) (fun _ _ _ h=>h) (Or.inl ⟨by rfl,fun wz hS=>?_⟩) x1 ?_
        · obtain⟨y1,y2⟩:=hS
          go_simp
          all_goals first|omega|simp[Addr.add]
        try simp only[Act.put,List.setIfInBounds_toArray,List.set_cons_zero,List.set_cons_succ]
        refine Zb (i:=12) (oi:={dst:=some 53,op:=_,type:=_,pos:=_,after:=_,guard:=_}) (v:=.agg #[.int .i64 f,.int .i64 1900,.int .i64 0,.int .i64 z]) rfl (by decide) (by kernel_rfl) (by kernel_rfl) (by kernel_rfl) (by kernel_rfl) (fun _ _ _ h=>h) (Or.inl ⟨by rfl,fun wz hS=>?_⟩) x1 ?_
        · obtain⟨y1,y2⟩:=hS
          go_simp
          all_goals first|omega|simp[Addr.add]
        try simp only[Act.put,List.setIfInBounds_toArray,List.set_cons_zero,List.set_cons_succ]
        refine Zl (j:=13) (o:={dst:=some 54,op:=_,type:=_,pos:=_,after:=_,guard:=_}) rfl (by kernel_rfl) (by decide) ?_;intro K1 hK1;rw[if_pos (by rfl)]
        go_simp
        refine hK1 _ _ x2 ?_;clear hK1 K1
        try simp only[Act.put,List.setIfInBounds_toArray,List.set_cons_zero,List.set_cons_succ]
        refine Zl (j:=14) (o:={dst:=some 55,op:=_,type:=_,pos:=_,after:=_,guard:=none}) rfl (by kernel_rfl) (by decide) ?_;intro K1 hK1;refine Zs (by rfl) (.tmp 41) (.tmp 54) _ _ (by rfl) _ _ (by rfl) (by rfl) HRUN.out ?_;refine hK1 _ _ x3 ?_;clear hK1 K1
        try simp only[Act.put,List.setIfInBounds_toArray,List.set_cons_zero,List.set_cons_succ]
        refine Z4 (o:={dst:=some 3,op:=_,type:=_,pos:=_,after:=_,guard:=_}) rfl (by kernel_rfl) ?_;intro K1 hK1;rw[if_pos (by rfl)]
        go_simp
        refine hK1 _ _ ?_;clear hK1 K1;refine wpAny_done (by kernel_rfl) ?_ _;clear x1 x2 x3;go_wp2;go_roundw
        case rel=>exact⟨j+1,by omega,by go_num,HE⟩
        case measure=>simp[intOf];omega
  · obtain rfl:j=N:=by omega
    have HE:=hid (show Z8 wr w.heap.size _ (balL L)/\Below w.heap.size w wr from⟨by have h1:=HI.out.1;rw[List.take_of_length_le (by rw[<-HNN.out];exact Nat.le_refl _)]at h1;exact h1.base_le HB1.out.size,HB1.out.trans (HI.out.2.mono HB1.out.size)⟩);obtain⟨PA,PK,rfl,_⟩:=HE.out.1.shape;clear HI;go_wp2;go_ret;exact⟨_,rfl,HE.out⟩
theorem Zl7(hr:RL w B A n l)(hB:B<=w.heap.size)(hn:n<=1073741823) :
 Calls prog 125 #[.slice A n k] w fun e w'=>∃u,e=.returned u/\Z8 w' w.heap.size u (l++balL (fundsOf l))/\Below w.heap.size w w':=by
 obtain⟨v1,w1,hrun1,ho1,hb1,_⟩:=(Z8.start w w.heap.size).appendL (c:=k) (hr.more hB) (by simp) (by omega) (Nat.le_refl _) 35;rw[List.nil_append]at ho1;have HBAL:=hid (ZfP (k:=k) (hr.below (hb1.mono hB)) (Nat.le_trans hB hb1.size) hn);have HL:=hid (And.intro hr.len (And.intro (ZdK (ZaO l hr.ok)) (show(balL (fundsOf l)).length<=n from Nat.le_trans (Zb5 _) (by rw[<-hr.len];exact Zah l))));have HO1:=hid (And.intro ho1 hb1);have HRUN1:=hid hrun1;generalize balL (fundsOf l)=M at HBAL HL ⊢;clear hr hB hrun1 ho1 hb1;go_enter func125,ntmps125
 go_wp2_with (at_builtin;refine Lib.wpList_append_run _ rfl _ _ _ _ rfl _ _ rfl rfl _ _ HRUN1.out ?_)
 refine HBAL.out.mono ?_;rintro e w2⟨u2,rfl,ho2,hb2⟩;obtain⟨A2,c2,rfl,hc2⟩:=ho2.shape;obtain⟨_,_,hr2⟩:=ho2.read HL.out.2.1;obtain⟨v3,w3,hrun3,ho3,hb3,_⟩:=(HO1.out.1.below hb2).appendL (c:=c2) hr2 (by rw[HL.out.1];omega) (by have:=HL.out.2.2;omega) (Nat.le_trans HO1.out.2.size hb2.size) 35;have HE:=hid (And.intro ho3 (HO1.out.2.trans ((hb2.mono HO1.out.2.size).trans hb3)));have HRUN3:=hid hrun3;clear ho2 hb2 hr2 hrun3 ho3 hb3 HBAL
 go_wp2_with (at_builtin;refine Lib.wpList_append_run _ rfl _ _ _ _ rfl _ _ rfl rfl _ _ HRUN3.out ?_)
 go_ret;exact⟨_,rfl,HE.out⟩
end
end Go.Proofs.YtiknkbpojmgbhaaGreat
