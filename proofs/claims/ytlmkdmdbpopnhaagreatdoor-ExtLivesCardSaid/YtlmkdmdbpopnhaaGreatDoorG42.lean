/- ExvD, ExwN, ExwO, ExuQ, ExwP, ExuJ. Conditions: in each theorem. -/
import Derived.Test.YtlmkdmdbpopnhaaGreatDoorG26
import Derived.Test.YtlmkdmdbpopnhaaGreatDoorG41
import Derived.Test.YtlmkdmdbpopnhaaGreatDoorG40
import Derived.Test.YtlmkdmdbpopnhaaGreatDoorG39
set_option maxHeartbeats 6400000
set_option maxRecDepth 100000
set_option linter.unusedVariables false
open Go.Proofs.Tryz
open Go.Lib (hid)
namespace Go.Proofs.YtlmkdmdbpopnhaaGreatDoor
open Go.RowKit
structure Zrl(S:DS)(L:List (Int×List Int))(M:MV)(D0:Nat)(pgs:Nat->Int)(cs:Nat->List Zw)(bd:Nat->Nat):Prop where
 dep:M.d=(D0:Int)
 lo:D0<=10
 dir:∀s:Nat,s<2^D0->Zaz S L M.d M.l.length M.l (s:Int)=(pgs s,0)
 ch:∀s:Nat,s<2^D0->ZeY S L M.d (pgs s) (cs s)
 hd:∀s:Nat,s<2^D0->∀l,(cs s)[0]?=some l->l.d=(bd s:Int)
 bdl:∀s:Nat,s<2^D0->bd s<=D0
 use_:((Z6 cs bd (2^D0)).2.2:Int)<=pagesOf S.n
 pgm:pagesOf S.n<=4294967296
 few:(Z6 cs bd (2^D0)).2.1.length<=1073741824
 one:∀s:Nat,s<2^D0->∀l∈cs s,l.ps.length<=1073741824
 dis:((Z6 cs bd (2^D0)).2.1.map fun x=>tx x.1).Nodup
def ZaB(W:World)(cb:Nat)(Y:Nat->Prop)(ls:List Zw):Prop:=
 cb<W.heap.size/\∀(i:Nat) (l:Zw),ls[i]?=some l->∃(A:Option Addr) (n c:Nat),W.cell? ⟨cb,i*4,none⟩=some (.int .i64 l.pg)/\W.cell? ⟨cb,i*4+1,none⟩=some (.int .i64 l.d)/\W.cell? ⟨cb,i*4+2,none⟩=some (.int .i64 l.x)/\W.cell? ⟨cb,i*4+3,none⟩=some (.slice A n c)/\n<=c/\n<=maxLen/\Zp W Y A n l.ps
theorem ZaB.of_chain{w0 W:World}{A:Option Addr}{n c:Nat}{ls:List Zw}(h:ZL w0 W (.slice A n c) ls)(h0:0<ls.length):∃cb,A=some ⟨cb,0,none⟩/\w0.heap.size<=cb/\ZaB W cb (fun j=>j<w0.heap.size) ls:=by
 obtain⟨vs,hown,hvs⟩:=h.row;rcases hown.2 with ⟨_,e0⟩|⟨cb,cap,cur,e,hb,hg,_,_,_,htake⟩
 · omega
 · refine⟨cb,by injection e,hb,(ZZa.1 hg).1,fun i l hl=>?_⟩;have hi:=(ZZb.1 hl).1;obtain⟨A',n',c',e4,h1,h2,h3⟩:=hvs i l hl
   have at_:∀t u,([.int .i64 l.pg,.int .i64 l.d,.int .i64 l.x,.slice A' n' c']:List Value)[t]?=some u->W.cell? ⟨cb,i*4+t,none⟩=some u:=fun t u hu=>by
    have ht:t<4:=(ZZb.1 hu).1;rw[<-e4,List.getElem?_take,if_pos ht,List.getElem?_drop]at hu;rw[cell_of_row W cb _ cur _ (0,0) hg,<-hu,<-htake,List.getElem?_take,if_pos (by omega)];simp
   exact⟨A',n',c',at_ 0 _ rfl,at_ 1 _ rfl,at_ 2 _ rfl,at_ 3 _ rfl,h1,h2,h3.grow (ZZe _) (fun _ _ _=>rfl) (fun k _ hk hk'=>hk (.inl hk'))⟩
theorem ZaB.next{W W':World}{cb:Nat}{Y Y':Nat->Prop}{ls:List Zw}(h:ZaB W cb Y ls)(hs:W.heap.size<=W'.heap.size)(hc:W'.heap[cb]?=W.heap[cb]?)(hst:∀(A':Option Addr) (n':Nat) (ps':List KV),Zp W Y A' n' ps'->Zp W' Y' A' n' ps'):ZaB W' cb Y' ls:=
 ⟨ZZd h.1 hs,fun i l hl=>by
  obtain⟨A,n,c,c0,c1,c2,c3,h1,h2,h3⟩:=h.2 i l hl;have hk:∀o,W'.cell? ⟨cb,o,none⟩=W.cell? ⟨cb,o,none⟩:=fun o=>World.cell?_of_block (a:=⟨cb,o,none⟩) hc
  exact⟨A,n,c,(hk _).trans c0,(hk _).trans c1,(hk _).trans c2,(hk _).trans c3,h1,h2,hst _ _ _ h3⟩⟩
theorem ZaB.below{W W':World}{cb:Nat}{Y:Nat->Prop}{ls:List Zw}(h:ZaB W cb Y ls)(hb:Below W.heap.size W W'):ZaB W' cb Y ls:=
 h.next hb.size (hb.block cb h.1) fun _ _ _ hs=>hs.below hb
theorem Zox{t m stp i:Nat}(hs:0<stp):((decide (t<=i)&&decide ((i-t)%stp=0)&&decide (i<t+m*stp))||decide (i=t+m*stp))=(decide (t<=i)&&decide ((i-t)%stp=0)&&decide (i<t+(m+1)*stp)):=by
 have e1:(m+1)*stp=m*stp+stp:=Nat.succ_mul _ _;rw[Bool.eq_iff_iff];simp only[Bool.or_eq_true,Bool.and_eq_true,decide_eq_true_eq];rw[e1];constructor
 · rintro(⟨⟨h1,h2⟩,h3⟩|rfl)
   · exact⟨⟨h1,h2⟩,by omega⟩
   · exact⟨⟨Nat.le_add_right _ _,by rw[Nat.add_sub_cancel_left];exact Nat.mul_mod_left _ _⟩,by omega⟩
 · rintro⟨⟨h1,h2⟩,h3⟩;by_cases h4:i<t+m*stp
   · exact .inl ⟨⟨h1,h2⟩,h4⟩
   · right;obtain⟨d,hd⟩:∃d,i-t=m*stp+d:=⟨i-t-m*stp,by omega⟩
     rw[hd,Nat.add_comm,Nat.mul_comm,Nat.add_mul_mod_self_left]at h2;rw[Nat.mod_eq_of_lt (by omega)]at h2;omega
theorem Zoy{x stp:Nat}(hx:x<=1024)(hs:stp<=1024):wrap64 ((x:Int)+(stp:Int))=((x+stp:Nat):Int):=by
 unfold wrap64;omega
theorem ZqO{x stp N:Nat}(hx:x<N)(h0:N<=1024)(h1:stp<=1024):x+stp<=2048:=by omega
theorem Zoz{x stp N:Nat}(hx:x<N)(h0:0<stp):N-(intOf (.int .i64 ((x+stp:Nat):Int))).toNat<N-(intOf (.int .i64 (x:Int))).toNat:=by
 simp only[intOf,Int.toNat_natCast];omega
theorem ZoA:(prog.info? 4).map (fun i=>(i.zero,i.size,i.bytes))=some (some (.bool false),1,1):=by kernel_rfl
theorem ZmS(n:Nat)(hn:n<=65536)(w:World):(Instr.makeSlice 97 (.int .i64 (n:Int)) (.int .i64 (n:Int))).run prog w=.ok (.slice (some ⟨w.heap.size,0,none⟩) n n) (w.alloc (.cells (madeCells #[.bool false] n) 4)):=by
 obtain⟨i,hi,hzz⟩:=Option.map_eq_some_iff.1 ZoA;simp only[Prod.mk.injEq]at hzz;obtain⟨hz,hs,hb⟩:=hzz;have hr:=run_make (P:=prog) w 97 4 i _ underlying97 hi hz .i64 .i64 n n (by omega) (Int.le_refl _) (by rw[hb];omega) (by omega);simp only[Int.toNat_natCast,hs,Nat.mul_one]at hr;exact hr
section
variable{D:World->(Nat->Prop)->Addr->DS->Prop}{w w':World}{F O:Nat->Prop}{p:Addr}{S:DS}{q r b st:Nat}{seq:Int}{L:List (Int×List Int)}
theorem ZmT(api:Zb D)(h:SAt D w F O p S q seq r b st L){M:MV}(hM:ZbM S L M){D0:Nat}{pgs:Nat->Int}{cs:Nat->List Zw}{bd:Nat->Nat}(hA:Zrl S L M D0 pgs cs bd) :
 Calls prog 13 #[.pointer (some ⟨st,0,none⟩)] w fun e w'=>∃(v:Value) (ps:List KV) (Y:Nat->Prop) (base:Nat),e=.returned (.tuple #[v,.int .i64 0])/\ps.Perm (Z6 cs bd (2^D0)).2.1/\ps.Pairwise (fun x y=>tx x.1<tx y.1)/\ZbL Zcx 65 2 w' Y base v ps/\(∀k,k<w.heap.size->Y k)/\w.heap.size<=base/\Below w.heap.size w w'/\∀k,Y k->k<w'.heap.size:=by
 have HH:=hid (Zb0 api h hM);have HT:=hid h;have HK:=hid hA;have hN1:2^D0<=1024:=ZZf (Nat.pow_le_pow_right (by decide) hA.lo) (by decide);have hN0:0<2^D0:=Nat.pos_of_ne_zero (by simp);obtain⟨N,hN⟩:∃N,N=2^D0:=⟨_,rfl⟩
 have hshl:∀W:World,(Op.shift .shl .i64 1 .i64 M.d).run prog W=.ok (.int .i64 (N:Int)) W:=fun W=>by
  rw[hA.dep];refine ZpK ⟨by omega,by have:=hA.lo;omega⟩ ?_ W;rw[Int.toNat_natCast,hN]
  have:((2:Int)^D0)=((2^D0:Nat):Int):=by simp
  rw[this];unfold wrap64;omega
 rw[<-hN]at hN1 hN0 ⊢;have HN:=hid hN;clear h hM hA hN;go_enter func13,ntmps13;go_wp2_with fail;refine HH.out.mono ?_;rintro e w1⟨A,k,c,rfl,hkc,hk1000,hri,hfresh,hb1⟩;obtain⟨w2,hw2⟩:∃w2,w2=w1.alloc (.cells #[.int .i64 M.d,.int .i64 M.f,.int .i64 M.n,.int .i64 M.c,.slice A k c] 41):=⟨_,rfl⟩
 have hb12:Below w1.heap.size w1 w2:=by rw[hw2];exact(Below.refl _ _).alloc (ZZe _) _
 have hbox:w2.heap[w1.heap.size]?=some (.cells #[.int .i64 M.d,.int .i64 M.f,.int .i64 M.n,.int .i64 M.c,.slice A k c] 41 (0,0)):=by rw[hw2];exact heap_alloc_new _ _
 have hs2:w2.heap.size=w1.heap.size+1:=by rw[hw2];simp
 have hT2:=(HT.out.below api hb1).below api hb12;have HPG:=hid (ZdO api hT2.pg);have hst:=hT2.sto.cell;have hmk:=ZmS N (by omega);have HRI:=hid (ZZg hri (ZZg hkc (ZZg hk1000 (ZZg (hri.below hb12) hb1))))
 have HINV:=hid (show Zht w1 (w2.alloc (.cells (madeCells #[.bool false] N) 4)) w1.heap.size w2.heap.size N (.cells #[.int .i64 M.d,.int .i64 M.f,.int .i64 M.n,.int .i64 M.c,.slice A k c] 41 (0,0)) (Z6 cs bd 0).1 (.slice none 0 0) (Z6 cs bd 0).2.1 (fun j=>j<=w2.heap.size)from by
  have hbm:Below w2.heap.size w2 (w2.alloc (.cells (madeCells #[.bool false] N) 4)):=(Below.refl _ _).alloc (ZZe _) _;have hrow:=World.rowIs_made w2 (.bool false) N 4
  exact⟨ZbL.start _ _ _,fun k hk=>hk,fun k hk=>by simp;omega,hrow,(hbm.block _ (by omega)).trans hbox,hb12.trans (hbm.mono hb12.size),ZZe _,by omega⟩)
 obtain⟨d0,d1,d2,d3,d4,_⟩:=(show ZiX w2 w1.heap.size M.d M.f M.n M.c (.slice A k c)from hbox).cells;have hshl2:=hshl w2;clear hri hb1 hfresh HH hT2 hbox hb12 hkc hk1000;rw[hw2]at hst d0 d1 d2 d3 d4 hshl2;have hmk2:=hmk (w1.alloc (.cells #[.int .i64 M.d,.int .i64 M.f,.int .i64 M.n,.int .i64 M.c,.slice A k c] 41));rw[hw2]at HPG;go_wp2_with fail;refine HPG.out.mono ?_;rintro e w3⟨rfl,rfl⟩;go_wp2_with fail;obtain⟨mb,hmb⟩:∃mb,mb=w1.heap.size:=⟨_,rfl⟩
 obtain⟨sb,hsb⟩:∃sb,sb=w1.heap.size+1:=⟨_,rfl⟩
 obtain⟨box,hbx⟩:∃box,box=Obj.cells #[.int .i64 M.d,.int .i64 M.f,.int .i64 M.n,.int .i64 M.c,.slice A k c] 41 (0,0):=⟨_,rfl⟩
 rw[hs2,<-hsb,<-hmb,<-hbx]at HINV;rw[hw2]at HINV;rw[<-hsb,<-hmb];have HBX:=hid (ZZg hbx (ZZg hmb hsb));clear d0 d1 d2 d3 d4 hst hmk hmk2 hshl hshl2 HPG hw2 hs2 hbx hmb hsb
 go_loopw[6,7,34] (fun v lf i wr=>∃t:Nat,t<=N/\i=.int .i64 t/\∃lv:Int,lf=.int .i64 lv/\Hid (lv=pagesOf S.n-((Z6 cs bd t).2.2:Int)/\∃Y,Zht w1 wr mb sb N box (Z6 cs bd t).1 v (Z6 cs bd t).2.1 Y)) (fun _ _ i _=>N-(intOf i).toNat)
 case atStart=>exact⟨0,Nat.zero_le _,rfl,_,rfl,hid ⟨by show _=_-((0:Nat):Int);simp,_,HINV.out⟩⟩
 case round=>
  obtain⟨t,ht,rfl,lv,rfl,HI⟩:=hrel;obtain⟨hlv,Y,hinv⟩:=HI.out;by_cases htN:t<N
  · have htN':(t:Int)<(N:Int):=by omega
    have c0:=hinv.seen.cell htN;have ht2:t<2^D0:=by rw[<-HN.out];exact htN
    cases hb:(Z6 cs bd t).1 t with
    | true=>
     have HE:=hid (show lv=pagesOf S.n-((Z6 cs bd (t+1)).2.2:Int)/\∃Y,Zht w1 wr mb sb N box (Z6 cs bd (t+1)).1 _ (Z6 cs bd (t+1)).2.1 Y from by rw[Zfi hb];exact⟨hlv,Y,hinv⟩);rw[hb]at c0;clear hlv hinv HI hb;go_wp2;go_roundw
     case rel=>exact⟨t+1,by omega,by go_num,lv,rfl,HE⟩
     case measure=>simp[intOf];omega
    | false=>
     rw[hb]at c0;have hmono:=Zhs cs bd (t+1) (2^D0-(t+1));rw[show t+1+(2^D0-(t+1))=2^D0 by omega,ZeL hb]at hmono;have hused:=hmono.1;have hcnt:=hmono.2;simp only at hused hcnt;have hwr:=hinv.bel;obtain⟨d0,d1,d2,d3,d4,_⟩:=(show ZiX wr mb M.d M.f M.n M.c (.slice A k c)from by have:=hinv.box;rw[HBX.out.1]at this;exact this).cells;have hdir:=HK.out.dir t ht2;rw[HRI.out.1.len]at hdir;obtain⟨l0,t0,hl0,_⟩:=(HK.out.ch t ht2).first;have hlen0:0<(cs t).length:=by rw[hl0];simp
     have hlvb:((cs t).length:Int)<=lv:=by have:=HK.out.use_;omega
     have hlv2:lv<=4294967296:=by have:=HK.out.pgm;omega
     have hlv0:0<=lv:=by omega
     have HCA:=hid (Zgf api ((HT.out.below api HRI.out.2.2.2.2).below api (by exact((Below.refl _ _).trans (hwr.mono (ZZe _))))) M.d M.f M.n M.c (cap:=c) (t:Int) lv (pgs t) (HRI.out.1.below hwr) hwr.size HRI.out.2.1 (by have:=HRI.out.2.2.1;unfold maxLen;omega) hdir (HK.out.ch t ht2) hlvb hlv2);have hhd:=HK.out.hd t ht2 l0 (by rw[hl0];rfl);have hbdl:bd t<=10:=ZZf (HK.out.bdl t ht2) HK.out.lo;have hone:=HK.out.one t ht2;have HNEW:=hid (ZeL hb);have HLV:=hid hlv;have HIN:=hid hinv;have hcnt2:(Z6 cs bd t).2.1.length+((cs t).flatMap Zw.ps).length<=1073741824:=by have:=HK.out.few;rw[List.length_append]at hcnt;omega
     generalize (Z6 cs bd t).1=seen at HNEW HIN;generalize (Z6 cs bd t).2.1=P at HNEW HIN hcnt2;generalize (Z6 cs bd t).2.2=ud at HNEW HLV;generalize cs t=ls at *;clear hlv hinv HI hb hmono hused hcnt hwr hdir;have hlen1:ls.length<=4294967296:=by omega
     obtain⟨stp,hstp⟩:∃stp,stp=2^bd t:=⟨_,rfl⟩
     have hstp0:0<stp:=by rw[hstp];exact Nat.pos_of_ne_zero (by simp)
     have hstp1:stp<=1024:=by rw[hstp];exact ZZf (Nat.pow_le_pow_right (by decide) hbdl) (by decide)
     have hsh:wrap64 (2^bd t)=(stp:Int):=by
      rw[hstp]
      have:((2:Int)^(bd t))=((2^bd t:Nat):Int):=by simp
      rw[this]
      have:2^bd t<=1024:=by rw[<-hstp];exact hstp1
      unfold wrap64;omega
     rw[<-hstp]at HNEW;have HL0:=hid (ZZg hl0 (ZZg hhd (ZZg hstp hsh)));clear hl0 hhd hstp hsh;go_wp2_with fail;refine HCA.out.mono ?_;rintro e w4⟨A4,c4,rfl,hch,hbc⟩;have hinv4:=HIN.out.below hbc;obtain⟨cb,rfl,hcb,hlv⟩:=ZaB.of_chain hch hlen0;have hlv4:ZaB w4 cb Y ls:=hlv.next (ZZe _) rfl (fun A' n' ps' hs=>hs.grow (ZZe _) (fun _ _ _=>rfl) (fun k _ hk hk'=>hk (HIN.out.lt k hk')));have hcbY:¬Y cb:=fun hy=>by have:=HIN.out.lt cb hy;omega
     have HC:=hid (ZZg hinv4 (ZZg hlv4 hcbY));clear hinv4 hlv hlv4 hcbY hch hbc HCA hcb d0 d1 d2 d3 d4 c0;go_wp2_with fail
     go_loopw[6,58] (fun v i wr=>∃j:Nat,i=.int .i64 j/\j<=ls.length/\Hid (∃Y',Zht w1 wr mb sb N box seen v (P++(ls.take j).flatMap Zw.ps) Y'/\ZaB wr cb Y' ls/\¬Y' cb)) (fun _ i _=>ls.length-(intOf i).toNat)
     case atStart=>exact⟨0,rfl,Nat.zero_le _,hid ⟨Y,by rw[List.take_zero,List.flatMap_nil,List.append_nil];exact HC.out.1,HC.out.2⟩⟩
     case round=>
      obtain⟨j,rfl,hj,HR⟩:=hrel;obtain⟨Y',hinv,hlv,hcbn⟩:=HR.out;by_cases hjl:j<ls.length
      · obtain⟨l,hl⟩:∃l,ls[j]?=some l:=⟨_,ZZc hjl⟩
        obtain⟨A',n',c',e0,e1,e2,e3,hnc,hnm,hst'⟩:=hlv.2 j l hl;have hb:Below wr.heap.size wr (wr.alloc (.cells #[.int .i64 l.pg,.int .i64 l.d,.int .i64 l.x,.slice A' n' c'] 104)):=(Below.refl _ _).alloc (ZZe _) _;have hn:n'<=1073741824:=by rw[<-hst'.pin.1];exact hone l (List.mem_iff_getElem?.2 ⟨j,hl⟩)
        have hP:(P++(ls.take j).flatMap Zw.ps).length<=1073741824:=by
         have h1:ls.flatMap Zw.ps=(ls.take j).flatMap Zw.ps++(ls.drop j).flatMap Zw.ps:=by rw[<-List.flatMap_append,List.take_append_drop]
         rw[h1,List.length_append]at hcnt2;rw[List.length_append];omega
        obtain⟨v',W',hrun,hinv',hstk,hkeep,hown,hsz⟩:=(hinv.below hb).add (c:=c') (hst'.below hb) hP hn 31;have hlv':=(hlv.below hb).next hsz (hkeep cb (hlv.below hb).1 (fun e=>hcbn ((hinv.below hb).row.own _ e))) hstk
        have hY:¬(Y' cb∨v'.ownBlock=some cb):=fun h=>by
         rcases h with a|a
         · exact hcbn a
         · rcases hown with q|q
           · rw[q]at a;exact hcbn (hinv.row.own cb a)
           · rw[q]at a;injection a with a;have:=(hlv.below hb).1;omega
        have HE:=hid (show ∃Y'',Zht w1 W' mb sb N box seen v' (P++(ls.take (j+1)).flatMap Zw.ps) Y''/\ZaB W' cb Y'' ls/\¬Y'' cb from⟨_,by
         have e9:(ls.take (j+1)).flatMap Zw.ps=(ls.take j).flatMap Zw.ps++l.ps:=by rw[List.take_add_one,hl,List.flatMap_append];simp
         rw[e9,<-List.append_assoc]
         exact hinv',hlv',hY⟩)
        obtain⟨pg,d,xx,ps⟩:=l;have HRUN:=hid hrun;have HJ:=hid (show j+1<=ls.length from hjl);clear hinv hlv hcbn HR hl hst' hb hn hP hrun hinv' hstk hkeep hown hsz hlv' hY
        go_wp2_with (at_builtin;refine Lib.wpList_append_run _ rfl _ _ _ _ rfl _ _ rfl rfl _ _ HRUN.out ?_)
        go_roundw
        case rel=>exact⟨j+1,by go_num,HJ.out,HE⟩
        case measure=>simp[intOf];omega
      · obtain rfl:j=ls.length:=by omega
        have HF:=hid (ZZg hinv (ZZg hlv hcbn));rw[List.take_length]at HF;clear hinv hlv hcbn HR;go_wp2_with fail
        go_loopw[14] (fun o wr=>∃x:Nat,o=.int .i64 x/\x<=2048/\Hid (∃m,x=t+m*stp/\Zht w1 wr mb sb N box (fun i=>seen i||(decide (t<=i)&&decide ((i-t)%stp=0)&&decide (i<x))) u6 (P++ls.flatMap Zw.ps) Y'/\ZaB wr cb Y' ls)) (fun o _=>N-(intOf o).toNat)
        case atStart=>exact⟨t,rfl,by omega,hid ⟨0,by simp,HF.out.1.congr (fun i hi=>by
         by_cases h1:t<=i
         · have:¬i<t:=by omega
           simp[this]
         · simp[h1]),HF.out.2.1⟩⟩
        case round=>
         obtain⟨x,rfl,hx,HR⟩:=hrel;obtain⟨m,hxm,hinv,hlv⟩:=HR.out;by_cases hxN:x<N
         · have c0:=hinv.seen.cell hxN;have f0:=hinv.seen.frozen x;obtain⟨hinv',hk,hsz⟩:=hinv.mark x;have hlv':=hlv.next hsz (hk cb (fun e=>HF.out.2.2 (by rw[e];exact HF.out.1.low sb (ZZe _)))) (fun A' n' ps' hs=>hs.grow hsz (fun k _ hy=>hk k (fun e=>hy (by rw[e];exact hinv.low sb (ZZe _)))) (fun _ _ h=>h));obtain⟨_,_,_,_,e1,_⟩:=hlv'.2 0 l0 (by rw[HL0.out.1];rfl);rw[HL0.out.2.1]at e1;have e1':(wr.setCell ⟨sb,x,none⟩ (.bool true)).cell? ⟨cb,1,none⟩=some (.int .i64 (bd t:Int)):=e1;have hsh:=HL0.out.2.2.2
           have HE:=hid (show ∃m',x+stp=t+m'*stp/\Zht w1 (wr.setCell ⟨sb,x,none⟩ (.bool true)) mb sb N box (fun i=>seen i||(decide (t<=i)&&decide ((i-t)%stp=0)&&decide (i<x+stp))) u6 (P++ls.flatMap Zw.ps) Y'/\ZaB (wr.setCell ⟨sb,x,none⟩ (.bool true)) cb Y' ls from⟨m+1,by rw[Nat.succ_mul];omega,hinv'.congr (fun i hi=>by
            rw[Bool.or_assoc,hxm,Zox hstp0,show t+(m+1)*stp=t+m*stp+stp by rw[Nat.succ_mul,Nat.add_assoc]]),hlv'⟩)
           clear hinv hlv hinv' hk hsz hlv' e1 HR hxm;have HW:=hid (Zoy (ZZf (Nat.le_of_lt hxN) hN1) hstp1);have HX:=hid (ZqO hxN hN1 hstp1);have HM:=hid (Zoz hxN hstp0);go_wp2;clear hsh;go_roundw
           case rel=>exact⟨x+stp,by rw[HW.out],HX.out,HE⟩
           case measure=>rw[HW.out];exact HM.out
         · have HE:=hid (show lv-(ls.length:Int)=pagesOf S.n-((Z6 cs bd (t+1)).2.2:Int)/\∃Y,Zht w1 wr mb sb N box (Z6 cs bd (t+1)).1 u6 (Z6 cs bd (t+1)).2.1 Y from by
            rw[HNEW.out];refine⟨by have:=HLV.out;show _=_-((ud+ls.length:Nat):Int);omega,Y',hinv.congr (fun i hi=>?_)⟩
            have:i<x:=by omega
            simp[ZqN,this])
           clear hinv hlv HR hxm;go_wp2;go_roundw
           case rel=>exact⟨t+1,by omega,by go_num,lv-(ls.length:Int),by go_num,HE⟩
           case measure=>simp[intOf];omega
  · obtain rfl:t=N:=by omega
    have HSO:=hid (Zow hinv.row (by have:=HK.out.few;rw[<-HN.out]at this;omega) (by have:=HK.out.dis;rwa[<-HN.out]at this));have HIN:=hid hinv;clear hlv hinv HI;go_wp2_with fail;refine HSO.out.mono ?_;rintro e w4⟨rfl,ps',hp,hup,hrow,htc⟩;have hsz1:=HRI.out.2.2.2.2.size
    have HE:=hid (ZZg hp (ZZg hup (ZZg hrow (show(∀k,k<w.heap.size->Y k)/\w.heap.size<=sb+1/\Below w.heap.size w w4/\∀k,Y k->k<w4.heap.size from by
     have hb01:=HRI.out.2.2.2.2;have hbw:=hb01.trans (HIN.out.bel.mono hsz1);have h1:=HBX.out.2.2;refine⟨fun k hk=>HIN.out.low k (by omega),by omega,?_,fun k hk=>ZZd (HIN.out.lt k hk) htc.size⟩
     exact hbw.trans (Zf.below (B:=w.heap.size) htc (fun k hk=>by have:=(HIN.out.row.at_ k hk).1;omega) hbw.size)))))
    clear hp hup hrow htc HSO;go_wp2;go_ret2;obtain⟨e1,e2,e3,e4,e5,e6,e7⟩:=HE.out;exact⟨_,ps',Y,sb+1,rfl,e1,e2,e3,e4,e5,e6,e7⟩
end
theorem ZoB{ps:List KV}{key:List Int}{i:Nat}{x:KV}(h:findI ps key=(i:Int))(hx:ps[i]?=some x):x.1=key:=by
 unfold findI at h
 cases hf:ps.findIdx? (fun x=>x.1 == key)with
 | none=>rw[hf]at h;simp at h
 | some j=>
  rw[hf]at h;have hj:j=i:=by have h2:(j:Int)=(i:Int):=h;omega
  subst hj;obtain⟨h1,h2,_⟩:=List.findIdx?_eq_some_iff_getElem.1 hf;rw[ZZc h1]at hx;rw[<-Option.some.inj hx];simpa using h2
theorem ZjE(b:Nat)(c:Chn):(ZI b c).flatMap Zw.ps=Zk c:=by
 have h1:(ZI b c).map Zw.ps=c.map (·.2):=by
  refine List.ext_getElem? fun i=>?_
  rw[List.getElem?_map,List.getElem?_map,Zc9]
  cases c[i]? with
  | none=>rfl
  | some z=>rfl
 unfold Zk;rw[List.flatMap_def,List.flatMap_def,h1]
section
variable{S S':DS}{L L':List (Int×List Int)}{e:Ex}{cap:Nat}{T:TL}
theorem Zy.congr(h:Zy S L e cap)(hn:S'.n=S.n)(hg:∀i:Int,0<=i->i<S.P->Zn S' L' i=Zn S L i):Zy S' L' e cap:=by
 have hP:S'.P=S.P:=by unfold DS.P;rw[hn]
 have hc0:0<S.P:=by
  have h1:=h.ok.pg.lt 0 List.mem_cons_self;have h2:=h.sm.2.1;have h3:=h.P;omega
 have hi:∀{i:Int},InP S i->InP S' i/\Zn S' L' i=Zn S L i:=fun {i} hi=>⟨⟨hi.1,by rw[hP];exact hi.2⟩,hg i (Int.le_of_lt hi.1) hi.2⟩
 have hsl:∀{dir:List Int} {s:Nat} {pg:Int},Zay S L dir s pg->Zay S' L' dir s pg:=fun ha=>⟨(hi ha.1).1,by rw[(hi ha.1).2];exact ha.2⟩
 refine⟨by rw[hg 0 (by omega) hc0];exact h.head,⟨fun i hi'=>?_,fun s hs=>hsl (h.lies.slots s hs),fun g b hE hx=>?_,fun i q hq=>hsl (h.lies.free i q hq)⟩,h.ok,h.dir,h.sm,by rw[hP];exact h.P,by rw[hn];exact h.pg,h.few⟩
 · have hi2:InP S i:=⟨hi'.1,by rw[<-hP];exact hi'.2⟩
   rw[(hi hi2).2];exact h.lies.pgs i hi2
 · have h0:=h.ok.pg.apart.2.2.1 g hE.page;have h2:=h.sm.2.1;have h3:=h.P;rw[hg g (by omega) (by omega)];exact h.lies.ents g b hE hx
theorem ZlJ(hH:ZX hashL e):∀k,k<=2^e.d->∃bl:List Nat,bl.Nodup/\(∀p,p∈bl↔∃s,s<k/\e.sl s=p)/\(Z6 (fun s=>ZI (e.bd (e.sl s)) (e.ch (e.sl s))) (fun s=>e.bd (e.sl s)) k).2.1=bl.flatMap (fun p=>Zk (e.ch p))/\(Z6 (fun s=>ZI (e.bd (e.sl s)) (e.ch (e.sl s))) (fun s=>e.bd (e.sl s)) k).2.2=(bl.flatMap fun p=>Zg (e.ch p)).length/\∀i,k<=i->i<2^e.d->((Z6 (fun s=>ZI (e.bd (e.sl s)) (e.ch (e.sl s))) (fun s=>e.bd (e.sl s)) k).1 i=true↔∃s,s<k/\e.sl s=e.sl i)
 | 0,_=>⟨[],List.nodup_nil,fun p=>⟨fun h=>absurd h List.not_mem_nil,fun⟨s,hs,_⟩=>by omega⟩,rfl,rfl,fun i _ _=>⟨fun h=>by simp[Z6]at h,fun⟨s,hs,_⟩=>by omega⟩⟩
 | k+1,hk=>by
  obtain⟨bl,b1,b2,b3,b4,b5⟩:=ZlJ hH k (by omega);generalize hcs:(fun s=>ZI (e.bd (e.sl s)) (e.ch (e.sl s)))=cs at *;generalize hbd:(fun s=>e.bd (e.sl s))=bd at *
  cases hseen:(Z6 cs bd k).1 k with
  | true=>
   obtain⟨s0,hs0,es0⟩:=(b5 k (ZZe _) (by omega)).1 hseen;rw[Zfi hseen];refine⟨bl,b1,fun p=>(b2 p).trans ⟨fun⟨s,hs,es⟩=>⟨s,by omega,es⟩,fun⟨s,hs,es⟩=>?_⟩,b3,b4,fun i hi hi2=>(b5 i (by omega) hi2).trans ⟨fun⟨s,hs,es⟩=>⟨s,by omega,es⟩,fun⟨s,hs,es⟩=>?_⟩⟩
   · by_cases h:s=k
     · exact⟨s0,hs0,by rw[es0,<-h,es]⟩
     · exact⟨s,by omega,es⟩
   · by_cases h:s=k
     · exact⟨s0,hs0,by rw[es0,<-h,es]⟩
     · exact⟨s,by omega,es⟩
  | false=>
   have hno:∀s,s<k->e.sl s≠e.sl k:=fun s hs es=>by
    have:=(b5 k (ZZe _) (by omega)).2 ⟨s,hs,es⟩
    rw[hseen]at this;cases this
   rw[ZeL hseen];refine⟨bl++[e.sl k],?_,fun p=>?_,?_,?_,fun i hi hi2=>?_⟩
   · refine List.nodup_append.2 ⟨b1,by simp,fun a ha b hb e0=>?_⟩;obtain⟨s,hs,es⟩:=(b2 a).1 ha;exact hno s hs (by rw[es,e0,List.mem_singleton.1 hb])
   · rw[List.mem_append,List.mem_singleton,b2];constructor
     · rintro(⟨s,hs,es⟩|rfl)
       · exact⟨s,by omega,es⟩
       · exact⟨k,by omega,rfl⟩
     · rintro⟨s,hs,es⟩;by_cases h:s=k
       · exact .inr (by rw[<-es,h])
       · exact .inl ⟨s,by omega,es⟩
   · show(Z6 cs bd k).2.1++(cs k).flatMap Zw.ps=_
     rw[b3,List.flatMap_append,<-hcs];simp only[ZjE,List.flatMap_cons,List.flatMap_nil,List.append_nil]
   · show(Z6 cs bd k).2.2+(cs k).length=_
     rw[b4,List.flatMap_append,List.length_append,<-hcs];simp only[Zan,List.flatMap_cons,List.flatMap_nil,List.append_nil];simp[Zg]
   · show((Z6 cs bd k).1 i||(decide (k<=i)&&decide ((i-k)%2^bd k=0)))=true↔_
     have hsame:=hH.sl.same k i (by omega) hi2;have hbk:bd k=e.bd (e.sl k):=by rw[<-hbd]
     have hmod:(i-k)%2^bd k=0↔e.sl k=e.sl i:=by
      rw[hsame,hbk];have hle:k<=i:=by omega
      generalize 2^e.bd (e.sl k)=P;constructor
      · intro h0
        have:i=k+(i-k):=by omega
        rw[this,Nat.add_mod,h0,Nat.add_zero,Nat.mod_mod]
      · intro h0;exact Nat.sub_mod_eq_zero_of_mod_eq h0.symm
     rw[Bool.or_eq_true,Bool.and_eq_true,decide_eq_true_eq,decide_eq_true_eq,b5 i (by omega) hi2,hmod];constructor
     · rintro(⟨s,hs,es⟩|⟨_,es⟩)
       · exact⟨s,by omega,es⟩
       · exact⟨k,by omega,es⟩
     · rintro⟨s,hs,es⟩;by_cases h:s=k
       · exact .inr ⟨by omega,by rw[<-h];exact es⟩
       · exact .inl ⟨s,by omega,es⟩
theorem ZjF(hH:ZX hashL e):(Z6 (fun s=>ZI (e.bd (e.sl s)) (e.ch (e.sl s))) (fun s=>e.bd (e.sl s)) (2^e.d)).2.1.Perm e.pairs/\(Z6 (fun s=>ZI (e.bd (e.sl s)) (e.ch (e.sl s))) (fun s=>e.bd (e.sl s)) (2^e.d)).2.2=e.pages.length:=by
 obtain⟨bl,b1,b2,b3,b4,_⟩:=ZlJ hH (2^e.d) (ZZe _);have hp:bl.Perm e.bs:=Zgz b1 hH.sl.once fun p=>(b2 p).trans (hH.sl.bsIs p).symm
 rw[b3,b4];exact⟨hp.flatMap_right _,(hp.flatMap_right _).length_eq⟩
theorem ZpL(hH:ZX hashL e):e.pages.length<=e.nx:=by
 have h3:=hH.pg.len;rw[<-h3];simp only[List.length_cons,List.length_append];omega
theorem Zy.allOk(h:Zy S L e cap)(hT:Zcw e T):Zrl S L (Zh e) e.d (fun s=>(e.sl s:Int)) (fun s=>ZI (e.bd (e.sl s)) (e.ch (e.sl s))) (fun s=>e.bd (e.sl s)):=by
 obtain⟨p1,p2⟩:=ZjF h.ok;have hfew:=ZcO h.ok;have hnx:=h.sm.2.1;have hcp:=h.few;have hmem:∀s,s<2^e.d->e.sl s∈e.bs:=fun s hs=>(h.ok.sl.bsIs _).2 ⟨s,hs,rfl⟩
 refine⟨rfl,h.ok.d,fun s hs=>h.slot hs,fun s hs=>Zjz h (hmem s hs),fun s hs l hl=>?_,fun s hs=>h.ok.sl.deep _ (hmem s hs),?_,?_,?_,fun s hs l hl=>?_,?_⟩
 · obtain⟨g,ps,hi,rfl⟩:=Zah hl;rfl
 · rw[p2,h.pg]
   have:=ZpL h.ok
   omega
 · rw[h.pg];omega
 · rw[p1.length_eq];omega
 · obtain⟨i,hi⟩:=List.mem_iff_getElem?.1 hl;obtain⟨g,ps,hg,rfl⟩:=Zah hi;obtain⟨s',_,_,hc⟩:=h.ok.at_ (hmem s hs);have h1:szX ps<=232:=hc.size (g,ps) (List.mem_of_getElem? hg)
   have:=Zgu h1
   show ps.length<=1073741824;omega
 · have h1:((Z6 (fun s=>ZI (e.bd (e.sl s)) (e.ch (e.sl s))) (fun s=>e.bd (e.sl s)) (2^e.d)).2.1.map fun x=>tx x.1).Perm ((T.map kvT).map fun x=>tx x.1):=(p1.trans hT.2.symm).map _;refine h1.nodup_iff.2 ?_
   have h2:(T.map kvT).map (fun x=>tx x.1)=T.map (·.1):=by
    rw[List.map_map];refine List.map_congr_left fun q _=>?_
    exact ZjB q.1
   rw[h2];have h3:=hT.1;unfold ZbT at h3;refine(List.pairwise_map.2 (h3.imp fun {a b} hab=>?_));exact fun e0=>ZaI a.1 (by rw[e0]at hab ⊢;exact hab)
end
section
variable{D:World->(Nat->Prop)->Addr->DS->Prop}{w w':World}{F O:Nat->Prop}{p:Addr}{S:DS}{q r b st:Nat}{seq:Int}{L:List (Int×List Int)}{e e':Ex}{cap:Nat}{T:TL}
theorem Zy.len(api:Zb D)(h:Top D w F O p S q seq r b st L)(hI:Zy S L e cap) :
 Calls prog 43 #[.pointer (some ⟨st,0,none⟩)] w fun z w'=>z=.returned (.int .i64 (e.pairs.length:Int))/\Below w.heap.size w w':=Zjw api h hI.headIs
theorem Zy.get(api:Zb D)(h:Top D w F O p S q seq r b st L)(hI:Zy S L e cap){KA:Option Addr}{Kn Kc BK:Nat}{key:List Int}(hkey:RB w BK KA Kn key)(hBK:BK<=w.heap.size)(hKn:Kn<=maxLen) :
 Calls prog 41 #[.pointer (some ⟨st,0,none⟩),.slice KA Kn Kc] w fun z w'=>((∀y∈e.pairs,y.1≠key)/\z=.returned (.tuple #[.slice none 0 0,.bool false,.int .i64 0])/\Below w.heap.size w w')∨
  (∃(y:KV) (A:Option Addr) (n c:Nat),y∈e.pairs/\y.1=key/\z=.returned (.tuple #[.slice A n c,.bool true,.int .i64 0])/\n<=c/\n<=maxLen/\RB w' w'.heap.size A n y.2/\(∀a,A=some a->0<n->w.heap.size<=a.block)/\Below w.heap.size w w'):=by
 have hc:=hI.chain key;refine(Zhh api h.at_ hI.headIs _ hkey hBK hKn hc.dir hc.ok hc.few hc.all).mono fun z w' hz=>?_
 rcases hz with ⟨h1,h2,h3⟩|⟨m,i,l,x,A,n,c,h1,h2,h3,h4,h5,h6,h7,h8,h9⟩
 · refine .inl ⟨fun y hy e0=>?_,h2,h3⟩;subst e0;obtain⟨a,g,ps1,ps2,t,_,hf⟩:=Zij hI.ok hy;have h4:=h1 _ _ hf.leaf;have h5:=hf.at_;omega
 · obtain⟨g,ps,hi,rfl⟩:=Zah h1;refine .inr ⟨x,A,n,c,List.mem_flatMap.2 ⟨_,hI.ok.home_mem key,(Zcu hi).subset (List.mem_of_getElem? h2)⟩,ZoB h3 h2,h4,h5,h6,h7,h8,h9⟩
theorem Zy.all(api:Zb D)(h:Top D w F O p S q seq r b st L)(hI:Zy S L e cap)(hT:Zcw e T) :
 Calls prog 13 #[.pointer (some ⟨st,0,none⟩)] w fun z w'=>∃(v:Value) (Y:Nat->Prop) (base:Nat),z=.returned (.tuple #[v,.int .i64 0])/\ZbL Zcx 65 2 w' Y base v (T.map kvT)/\(∀k,k<w.heap.size->Y k)/\w.heap.size<=base/\Below w.heap.size w w'/\∀k,Y k->k<w'.heap.size:=by
 refine(ZmT api h.at_ hI.headIs (hI.allOk hT)).mono fun z w' hz=>?_
 obtain⟨v,ps,Y,base,h1,h2,h3,h4,h5,h6,h7,h8⟩:=hz;have hp:ps.Perm (T.map kvT):=(h2.trans (ZjF hI.ok).1).trans hT.2.symm
 have hr:(T.map kvT).Pairwise (fun x y=>tx x.1<tx y.1):=by
  refine List.pairwise_map.2 ?_;have h9:=hT.1;unfold ZbT at h9;refine h9.imp fun {a b} hab=>?_
  show tx (by_ a.1)<tx (by_ b.1);rw[ZjB,ZjB];exact hab
 have he:ps=T.map kvT:=hp.eq_of_pairwise (fun a b _ _ h1 h2=>absurd (ZdH h1 h2) (ZaI _)) h3 hr;rw[he]at h4;exact⟨v,Y,base,h1,h4,h5,h6,h7,h8⟩
end
section
variable{D:World->(Nat->Prop)->Addr->DS->Prop}{w w':World}{F O:Nat->Prop}{p:Addr}{S:DS}{q r b st:Nat}{seq:Int}{L:List (Int×List Int)}{e e':Ex}{cap:Nat}{T:TL}
theorem ZkU(h:Top D w F O p S q seq r b st L){ka va:Option Addr}{kn kc vn vc:Nat}(hno:kn<1∨32<kn∨120<vn) :
 Calls prog 40 #[.pointer (some ⟨st,0,none⟩),.slice ka kn kc,.slice va vn vc] w fun z w'=>z=.returned (.int .i64 1)/\w=w':=by
 have HMD:=hid (Zc2 h.at_.sto);clear h;rcases Nat.lt_or_ge kn 1 with h1|h1
 · have k1:decide ((kn:Int)<1)=true:=by simp;omega
   clear hno;go_enter func40,ntmps40;go_wp2_with fail;refine HMD.out.mono ?_;rintro e w1⟨rfl,rfl⟩;go_wp2_with fail;go_ret;exact⟨rfl,rfl⟩
 · have k1:decide ((kn:Int)<1)=false:=by simp;omega
   rcases Nat.lt_or_ge 32 kn with h2|h2
   · have k2:decide ((kn:Int)>32)=true:=by simp;omega
     clear hno;go_enter func40,ntmps40;go_wp2_with fail;refine HMD.out.mono ?_;rintro e w1⟨rfl,rfl⟩;go_wp2_with fail;go_ret;exact⟨rfl,rfl⟩
   · have k2:decide ((kn:Int)>32)=false:=by simp;omega
     have k3:decide ((vn:Int)>120)=true:=by simp;omega
     clear hno;go_enter func40,ntmps40;go_wp2_with fail;refine HMD.out.mono ?_;rintro e w1⟨rfl,rfl⟩;go_wp2_with fail;go_ret;exact⟨rfl,rfl⟩
end
section
variable{D:World->(Nat->Prop)->Addr->DS->Prop}{w w':World}{F O:Nat->Prop}{p:Addr}{S:DS}{q r b:Nat}{seq:Int}{L:List (Int×List Int)}
theorem ZkV(api:Zb D)(hP:ZaN D w F O p S q seq r b L)(htab:Zdf w F)(hlen:Ziz S)(hout:¬O 1){M:MV}(hM:ZbM S L M) :
 Calls prog 49 #[.pointer (some ⟨r,0,none⟩)] w fun e w'=>∃st,e=.returned (.tuple #[.pointer (some ⟨st,0,none⟩),.int .i64 0])/\w.heap.size<=st/\Top D w' F O p S q seq r b st L/\Below w.heap.size w w':=by
 obtain⟨w1,hw1⟩:∃w1,w1=w.alloc (.cells #[.pointer (some ⟨r,0,none⟩)] 96):=⟨_,rfl⟩
 have hb1:Below w.heap.size w w1:=by rw[hw1];exact(Below.refl _ _).alloc (ZZe _) _
 have hst1:ZoZ w1 w.heap.size r:=by rw[hw1];exact heap_alloc_new _ _
 have hT1:Top D w1 F O p S q seq r b w.heap.size L:=⟨⟨hP.below api hb1,htab.below hb1,hlen.get hP.all,hst1,fun e=>Nat.lt_irrefl _ (hP.lt _ e)⟩,hlen,hout⟩
 have HHD:=hid (Zb0 api hT1.at_ hM);have HT:=hid hT1;have HB1:=hid hb1;clear hP htab hlen hout hM hb1 hst1 hT1;go_enter func49,ntmps49;go_wp2_with fail;rw[<-hw1];clear hw1;refine HHD.out.mono ?_;rintro e w2⟨A,k,c,rfl,_,_,_,_,hb2⟩;have HE:=hid (ZZg (HT.out.below api hb2) (HB1.out.trans (hb2.mono HB1.out.size)));clear hb2 HHD;go_wp2_with fail;go_ret2;exact⟨_,rfl,ZZe _,HE.out.1.below api ((Below.refl _ _).alloc (ZZe _) _),HE.out.2.alloc HE.out.2.size _⟩
end
def ZO(S:DS)(L:List (Int×List Int))(T:TL)(cap:Nat):Prop:=∃e,Zy S L e cap/\Zcw e T
def Zcz(kn vn:Nat):Prop:=(1<=kn/\kn<=32)/\vn<=120
instance (kn vn:Nat):Decidable (Zcz kn vn):=inferInstanceAs (Decidable (_/\_))
section
variable{D:World->(Nat->Prop)->Addr->DS->Prop}{w w':World}{F O:Nat->Prop}{p:Addr}{S S':DS}{q r b st:Nat}{seq:Int}{L L':List (Int×List Int)}{cap:Nat}{T:TL}
theorem ZO.congr(h:ZO S L T cap)(hn:S'.n=S.n)(hg:∀i:Int,0<=i->i<S.P->Zn S' L' i=Zn S L i):ZO S' L' T cap:=by
 obtain⟨e,h1,h2⟩:=h;exact⟨e,h1.congr hn hg,h2⟩
theorem Top.stay(h:Top D w F O p S q seq r b st L):Zad D w F O p S q seq r b st L w:=⟨O,h,⟨rfl,rfl,rfl,ZZe _,fun _ _ _=>rfl⟩,fun _ hk=>.inl hk⟩
theorem ZO.put(api:Zb D)(h:Top D w F O p S q seq r b st L)(hI:ZO S L T cap){ka va:Option Addr}{kn kc vn vc B B':Nat}{l u:List Int}(hk:RB w B ka kn l)(hB:B<=w.heap.size)(hv:RB w B' va vn u)(hB':B'<=w.heap.size)(hkc:kn<=kc/\kn<=maxLen)(hvc:vn<=vc/\vn<=maxLen)(hroom:1044+T.length<=cap) :
 ∃L',ZO S L' (if Zcz kn vn then Zff T (tx l) u else T) cap/\Calls prog 40 #[.pointer (some ⟨st,0,none⟩),.slice ka kn kc,.slice va vn vc] w fun z w'=>z=.returned (.int .i64 (if Zcz kn vn then 0 else 1))/\Zad D w F O p S q seq r b st L' w':=by
 obtain⟨e,hI,hT⟩:=hI;have hlen:=hT.len;by_cases hr:Zcz kn vn
 · rw[if_pos hr,if_pos hr];have hl:by_ (tx l)=l:=ZpF hk.2.1;have hrise:=hT.1.set (tx l) u
   cases hlook:Zak T (tx l)with
   | none=>
    have hn:∀y∈e.pairs,y.1≠l:=fun y hy=>by
     have:=hT.no.1 hlook y hy
     rwa[hl]at this
    have hx:Zh7 ((l,u):KV):=⟨by show 1<=l.length;rw[hk.1];exact hr.1.1,by show l.length<=32;rw[hk.1];exact hr.1.2,by show u.length<=120;rw[hv.1];exact hr.2⟩
    obtain⟨e',he⟩:=hI.ok.addF_some (x:=(l,u)) (cap:=cap) hx 10 hI.dir rfl (by omega) (by omega);obtain⟨_,_,hpr⟩:=hI.ok.addF hx 10 hI.dir rfl hn he;obtain⟨L',h1,h2⟩:=hI.putNew (x:=(l,u)) api h hk hB hv hB' hkc hvc hr.1 hr.2 hn he;exact⟨L',⟨e',h1,hT.putNew hlook (by rw[hl];exact hpr) hrise⟩,h2⟩
   | some v=>
    have hm:=hT.look.1 hlook;rw[hl]at hm;obtain⟨e',L',h1,⟨R,h2,h3⟩,h4⟩:=hI.putOld (x:=(l,u)) api h hk hB hv hB' hkc hvc hr.1 hr.2 hm rfl (by omega);exact⟨L',⟨e',h1,hT.putOld hlook hI.ok.keys (y:=(l,v)) hl.symm h2 (by rw[hl];exact h3) hrise⟩,h4⟩
 · rw[if_neg hr,if_neg hr];refine⟨L,⟨e,hI,hT⟩,(ZkU h (ka:=ka) (va:=va) (kc:=kc) (vc:=vc) (show kn<1∨32<kn∨120<vn from ?_)).mono fun z w' hz=>⟨hz.1,by rw[<-hz.2];exact h.stay⟩⟩;unfold Zcz at hr;omega
theorem ZO.del(api:Zb D)(h:Top D w F O p S q seq r b st L)(hI:ZO S L T cap){ka:Option Addr}{kn kc B:Nat}{l:List Int}(hk:RB w B ka kn l)(hB:B<=w.heap.size)(hkc:kn<=kc/\kn<=maxLen) :
 ∃L',ZO S L' (Zfg T (tx l)) cap/\Calls prog 42 #[.pointer (some ⟨st,0,none⟩),.slice ka kn kc] w fun z w'=>z=.returned (.tuple #[.bool (Zak T (tx l)).isSome,.int .i64 0])/\Zad D w F O p S q seq r b st L' w':=by
 obtain⟨e,hI,hT⟩:=hI;have hl:by_ (tx l)=l:=ZpF hk.2.1
 cases hlook:Zak T (tx l)with
 | none=>
  have hn:∀y∈e.pairs,y.1≠l:=fun y hy=>by
   have:=hT.no.1 hlook y hy
   rwa[hl]at this
  rw[Zot hlook];refine⟨L,⟨e,hI,hT⟩,(hI.delNone api h hk hB hkc hn).mono fun z w' hz=>⟨hz.1,O,h.below api hz.2,⟨hz.2.os,hz.2.tape,hz.2.output,hz.2.size,fun k hk _=>hz.2.block k hk⟩,fun _ hk=>.inl hk⟩⟩
 | some v=>
  have hm:=hT.look.1 hlook;rw[hl]at hm;obtain⟨e',L',h1,h2,h3⟩:=hI.delThere (y:=(l,v)) api h hk hB hkc hm;exact⟨L',⟨e',h1,hT.del hlook hI.ok.keys (y:=(l,v)) hl.symm h2 (hT.1.del _)⟩,h3⟩
theorem ZO.get(api:Zb D)(h:Top D w F O p S q seq r b st L)(hI:ZO S L T cap){KA:Option Addr}{Kn Kc BK:Nat}{l:List Int}(hk:RB w BK KA Kn l)(hBK:BK<=w.heap.size)(hKn:Kn<=maxLen) :
 Calls prog 41 #[.pointer (some ⟨st,0,none⟩),.slice KA Kn Kc] w fun z w'=>∃(A:Option Addr) (n c:Nat),z=.returned (.tuple #[.slice A n c,.bool (Zak T (tx l)).isSome,.int .i64 0])/\n<=c/\n<=maxLen/\RB w' w'.heap.size A n ((Zak T (tx l)).getD [])/\Below w.heap.size w w':=by
 obtain⟨e,hI,hT⟩:=hI;have hl:by_ (tx l)=l:=ZpF hk.2.1;refine(hI.get api h hk hBK hKn).mono fun z w' hz=>?_
 rcases hz with ⟨h1,h2,h3⟩|⟨y,A,n,c,hy,h1,h2,h4,h5,h6,_,h8⟩
 · have hlook:Zak T (tx l)=none:=hT.no.2 fun y hy=>by rw[hl];exact h1 y hy
   rw[hlook];exact⟨none,0,0,h2,ZZe _,by decide,⟨rfl,fun _ h=>absurd h List.not_mem_nil,fun h=>absurd h (Nat.lt_irrefl _)⟩,h3⟩
 · have hlook:Zak T (tx l)=some y.2:=hT.look.2 (by rw[hl,<-h1];exact hy);rw[hlook];exact⟨A,n,c,h2,h4,h5,h6,h8⟩
theorem ZO.len(api:Zb D)(h:Top D w F O p S q seq r b st L)(hI:ZO S L T cap) :
 Calls prog 43 #[.pointer (some ⟨st,0,none⟩)] w fun z w'=>z=.returned (.int .i64 (T.length:Int))/\Below w.heap.size w w':=by
 obtain⟨e,hI,hT⟩:=hI;rw[<-hT.len];exact hI.len api h
theorem ZO.all(api:Zb D)(h:Top D w F O p S q seq r b st L)(hI:ZO S L T cap) :
 Calls prog 13 #[.pointer (some ⟨st,0,none⟩)] w fun z w'=>∃(v:Value) (Y:Nat->Prop) (base:Nat),z=.returned (.tuple #[v,.int .i64 0])/\ZbL Zcx 65 2 w' Y base v (T.map kvT)/\(∀k,k<w.heap.size->Y k)/\w.heap.size<=base/\Below w.heap.size w w'/\∀k,Y k->k<w'.heap.size:=by
 obtain⟨e,hI,hT⟩:=hI;exact hI.all api h hT
theorem ZO.open_(api:Zb D)(hP:ZaN D w F O p S q seq r b L)(htab:Zdf w F)(hlen:Ziz S)(hout:¬O 1)(hI:ZO S L T cap) :
 Calls prog 49 #[.pointer (some ⟨r,0,none⟩)] w fun e w'=>∃st,e=.returned (.tuple #[.pointer (some ⟨st,0,none⟩),.int .i64 0])/\w.heap.size<=st/\Top D w' F O p S q seq r b st L/\Below w.heap.size w w':=by
 obtain⟨e,hI,hT⟩:=hI;exact ZkV api hP htab hlen hout hI.headIs
end
theorem ZqP{w:World}{g cap ch bx:Nat}{P1 P2 P3:World->Prop}(hc:3<=cap)(c0:w.cell? ⟨g,0,none⟩=some (.func (.func 93) #[.pointer (some ⟨ch,0,none⟩)] #[]))(c1:∀w1,P1 w1->w1.cell? ⟨g,1,none⟩=some (.func (.func 94) #[] #[.pointer (some ⟨bx,0,none⟩)]))(c2:∀w1,P2 w1->w1.cell? ⟨g,2,none⟩=some (.func (.func 98) #[.pointer (some ⟨ch,0,none⟩)] #[]))
 (h0:Calls prog 93 #[.pointer (some ⟨ch,0,none⟩)] w fun e w'=>e=.returned (.int .i64 0)/\P1 w') (h1:∀w1,P1 w1->Calls prog 94 #[.pointer (some ⟨bx,0,none⟩)] w1 fun e w'=>e=.returned (.int .i64 0)/\P2 w') (h2:∀w1,P2 w1->Calls prog 98 #[.pointer (some ⟨ch,0,none⟩)] w1 fun e w'=>e=.returned (.int .i64 0)/\P3 w') :
 Calls prog 92 #[.slice (some ⟨g,0,none⟩) 3 cap] w fun e w'=>e=.returned (.int .i64 0)/\P3 w':=by
 have H0:=hid h0;have H1:=hid h1;have H2:=hid h2;have C1:=hid c1;have C2:=hid c2;have C0:=hid c0;clear h0 h1 h2 c1 c2 c0;go_enter func92,ntmps92;go_wp2_with fail
 go_loopw[8] (fun i wr=>∃k:Nat,k<=3/\i=.int .i64 k/\Hid ((k=0/\w=wr)∨(k=1/\P1 wr)∨(k=2/\P2 wr)∨(k=3/\P3 wr))) (fun i _=>3-(intOf i).toNat)
 case atStart=>exact⟨0,by omega,rfl,hid (.inl ⟨rfl,rfl⟩)⟩
 case round=>
  obtain⟨k,hk,rfl,hJ⟩:=hrel;rcases hJ.out with ⟨rfl,rfl⟩|⟨rfl,hp⟩|⟨rfl,hp⟩|⟨rfl,hp⟩
  · have z:=C0.out;go_wp2_with fail;refine H0.out.mono ?_;rintro e w1⟨rfl,hp1⟩;have HP:=hid hp1;clear hp1 z;go_wp2_with fail;go_roundw
    case rel=>exact⟨1,by omega,by go_num,hid (.inr (.inl ⟨rfl,HP.out⟩))⟩
    case measure=>simp[intOf]
  · have z:=C1.out wr hp;have HD:=hid (H1.out wr hp);clear hp;go_wp2_with fail;refine HD.out.mono ?_;rintro e w1⟨rfl,hp1⟩;have HP:=hid hp1;clear hp1 z;go_wp2_with fail;go_roundw
    case rel=>exact⟨2,by omega,by go_num,hid (.inr (.inr (.inl ⟨rfl,HP.out⟩)))⟩
    case measure=>simp[intOf]
  · have z:=C2.out wr hp;have HD:=hid (H2.out wr hp);clear hp;go_wp2_with fail;refine HD.out.mono ?_;rintro e w1⟨rfl,hp1⟩;have HP:=hid hp1;clear hp1 z;go_wp2_with fail;go_roundw
    case rel=>exact⟨3,by omega,by go_num,hid (.inr (.inr (.inr ⟨rfl,HP.out⟩)))⟩
    case measure=>simp[intOf]
  · have HP:=hid hp;clear hp;go_wp2_with fail;go_ret;exact⟨rfl,HP.out⟩
section
variable{D:World->(Nat->Prop)->Addr->DS->Prop}{w0 w w':World}{F O:Nat->Prop}{p:Addr}{S:DS}{q r b st ch mb:Nat}{seq:Int}{L:List (Int×List Int)}{M M':MV}{v v' sv:Value}{ns:Nat}{SL:Int->Option Int}{fs:List Value}{ss:List Stp}
theorem ZmU(api:Zb D)(hS:SAt D w0 F O p S q seq r b st L)(h:ZF w0 w ch st mb M M' v v' sv ns SL fs ss){bx:Nat}(hbx:w.heap[bx]?=some (.cells #[.pointer (some ⟨ch,0,none⟩)] 153 (0,0)))(hnx:¬GX ch mb v' sv bx)
 (hn:0<=M'.n/\M'.n<4611686018427387904) (hf : -9223372036854775808<=M'.f/\M'.f<=9223372036854775807) {pg:Int} {M2:MV} (ht:Zcr S L M' pg M2) (hpg : -9223372036854775808<=pg/\pg<=9223372036854775807) (hmay:ZD ⟨0,0,[]⟩=true) (hm:fs.length+2<=4000000) (hns:ns<4000000) :
 Calls prog 94 #[.pointer (some ⟨bx,0,none⟩)] w fun e w'=>e=.returned (.int .i64 0)/\∃sv2 fs2,ZF w0 w' ch st mb M M2 v v' sv2 (ns+1) (fun i=>if i=0 then some pg else SL i) fs2 (ss++[.pt 0 pg]++[.lay pg (pageBk ⟨0,0,[]⟩)])/\fs2.length=fs.length+2/\ZZ w0.heap.size w.heap.size ch mb v' sv v' sv2 fs fs2 ss (ss++[.pt 0 pg]++[.lay pg (pageBk ⟨0,0,[]⟩)]) w w':=by
 have HTK:=hid (Zjc api hS h hn hf ht);have hbl:bx<w.heap.size:=(ZZa.1 hbx).1;have z0:w.cell? ⟨bx,0,none⟩=some (.pointer (some ⟨ch,0,none⟩)):=by rw[cell_of_row _ _ 0 _ _ (0,0) hbx];rfl
 have HX:=hid hnx;clear h hbx hnx ht hS;go_enter func94,ntmps94;go_wp2_with fail;refine HTK.out.mono ?_;rintro e w1⟨rfl,hg1,hw1⟩;have z1:=(World.cell?_of_block (a:=⟨bx,0,none⟩) (hw1.touch.block bx hbl HX.out)).trans z0;have HPT:=hid (ZkH hg1 0 pg (by decide) hpg (by omega) hns);have HW1:=hid hw1;clear hg1 hw1 HTK;go_wp2_with fail;refine HPT.out.mono ?_;rintro e w2⟨rfl,sv2,f2,hg2,hw2⟩;have hw02:=HW1.out.go hw2;have z2:=(World.cell?_of_block (a:=⟨bx,0,none⟩) (hw02.touch.block bx hbl HX.out)).trans z0;have HKP:=hid (ZcI hg2 (G:=fun _=>False) (lf:=.agg #[.int .i64 pg,.int .i64 0,.int .i64 0,.slice none 0 0]) (l:=⟨pg,0,0,[]⟩) ⟨none,0,0,rfl,ZZe _,Nat.zero_le _,Zp.none_ _ _⟩ hpg (by show -9223372036854775808<=(0:Int)/\(0:Int)<=9223372036854775807;decide) (by show -9223372036854775808<=(0:Int)/\(0:Int)<=9223372036854775807;decide) hmay (by simp;omega));have HW2:=hid hw02;clear hg2 hw2 hw02 HPT z1;go_wp2_with fail;refine HKP.out.mono ?_;rintro e w3⟨rfl,sv3,f3,hg3,hw3⟩;have HE:=hid (ZZg hg3 (HW2.out.go hw3));clear hg3 hw3 HKP z2;go_wp2_with fail;go_ret;exact⟨rfl,sv3,_,HE.out.1,by simp,HE.out.2⟩
end
end Go.Proofs.YtlmkdmdbpopnhaaGreatDoor
