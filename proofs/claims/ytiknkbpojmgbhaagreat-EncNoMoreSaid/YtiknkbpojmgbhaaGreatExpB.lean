/- ExpT, ExpC, ExpA, ExpB. Conditions: in each theorem. -/
import Derived.Test.YtiknkbpojmgbhaaGreatEncF
import Derived.Test.YtiknkbpojmgbhaaGreatExpP
set_option maxHeartbeats 12800000
set_option maxRecDepth 100000
set_option linter.unusedVariables false
open Go.Proofs.Tryz
open Go.Lib (hid)
namespace Go.Proofs.YtiknkbpojmgbhaaGreat
open Go.RowKit Go.Maps
def Zio(w w':World)(X:Nat->Prop)(v m c:Nat)(R:(List Dl×Int)×VS)(e:Ending):Prop:=
 ∃u X',(∀k,X k->X' k)/\(∀k,X' k->X k∨w.heap.size<=k)/\(∀b,u.ownBlock=some b->X' b)/\e=.returned (.tuple #[u,.int .i64 R.1.2])/\Ze w' X' v m c R.2/\DlE.Own 50 w' w.heap.size u R.1.1/\Za (fun k=>k=c) w w'
theorem Ze.own_new{w w':World}{X:Nat->Prop}{v m c:Nat}{S:VS}(h:Ze w X v m c S)(hb:Below w.heap.size w w'):Ze w' (fun k=>X k∨(w.heap.size<=k/\k<w'.heap.size)) v m c S:=
 h.keep hb.size (fun k hk hn he=>by rcases he with he|he;exact hn he;omega) (fun k hk=>.inl hk) (fun k hk=>by
  rcases hk with hk|hk
  · exact Nat.lt_of_lt_of_le (h.lt k hk) hb.size
  · exact hk.2) (fun k hk _=>hb.block k hk)
section
variable{w w':World}{X:Nat->Prop}{v m c:Nat}{S:VS}
theorem Znh(h:Ze w X v m c S)(k y f:Int)(hf:ZS f){A:Option Addr}{n cap:Nat}{l:List Ln}(hl:∀W,Za (fun k=>k=c) w W->RL W W.heap.size A n l)(hn:n<=1000)(hC:S.C.length<=100000) :
 Calls prog 195 #[.pointer (some ⟨v,0,none⟩),.int .i64 k,.int .i64 y,.int .i64 f,.slice A n cap] w fun e w'=>Zio w w' X v m c (takeR S k y f l) e:=by
 have HG:=hid (Zc4 h f hf);have hcw:=h.lt c h.xc;have hlen:=(hl w (Za.refl _ _)).len;have hlok:=(hl w (Za.refl _ _)).ok;have HS:=hid (And.intro h.ok hC);have HV:=hid (show ∀W,Below w.heap.size w W->Ze W (fun k=>X k∨(w.heap.size<=k/\k<W.heap.size)) v m c S/\Za (fun k=>k=c) w W from fun W hW=>⟨h.own_new hW,Za.of_below hW⟩);have HL:=hid hl;have HLEN:=hid (And.intro hlen hlok)
 have HBAD:=hid (show ∀(v':Int) W,takeR S k y f l=(([],v'),S)->Below w.heap.size w W->Zio w W X v m c (takeR S k y f l) (.returned (.tuple #[.slice none 0 0,.int .i64 v']))from fun v' W hR hW=>by
  rw[hR]
  exact⟨_,X,fun _ h=>h,fun _ h=>.inl h,fun b hb=>by simp[Value.ownBlock]at hb,rfl,h.below hW,Enc.Own.start _ _ _,Za.of_below hW⟩)
 have h6:=fun(d:Dc) (st:List Dl) (hd:docGet S f=some (d,st))=>ZaT hd
 have t1:=fun(hd:docGet S f=none)=>ZcE (k:=k) (y:=y) (l:=l) hd
 have t2:=fun(d:Dc) (st:List Dl) (hd:docGet S f=some (d,st)) (q:d.k≠k∨d.y≠y)=>Zb9 (l:=l) hd q
 have t3:=fun(d:Dc) (st:List Dl) (hd:docGet S f=some (d,st)) (q1:d.k=k) (q2:d.y=y) (q:(ZE st l).2≠0)=>Zdn hd q1 q2 q
 have t4:=fun(d:Dc) (st:List Dl) (hd:docGet S f=some (d,st)) (q1:d.k=k) (q2:d.y=y) (q:(ZE st l).2=0)=>ZcF hd q1 q2 q
 have HT:=hid (And.intro h6 (And.intro t1 (And.intro t2 (And.intro t3 t4))));clear h6 t1 t2 t3 t4 h hl hlen hlok hC;obtain⟨o,ho⟩:∃o,o=docGet S f:=⟨_,rfl⟩
 rw[<-ho]at HG HT;have HO:=hid ho;clear ho;generalize takeR S k y f l=R at HBAD HT ⊢;go_enter func195,ntmps195;go_wp2_with fail;refine HG.out.mono ?_;rintro e w1⟨A0,k0,rfl,hown,hok,hdok,hb1⟩;clear HG;cases o with
 | none=>
  have HE:=hid (HBAD.out 7 (w1.alloc (.cells #[.int .i64 0,.int .i64 0,.int .i64 0,.int .i64 0,.int .i64 0] 44 (0,0))) (HT.out.2.1 rfl) (hb1.trans (((Below.refl w1.heap.size w1).alloc (Nat.le_refl _) _).mono hb1.size)));clear HT HBAD HO hown hok hdok hb1;simp only[dcW,Option.map_none,Option.getD_none,Zbt,Option.isSome_none];go_wp2_with fail;go_ret2;exact HE.out
 | some p=>
  obtain⟨d,st⟩:=p;obtain⟨g1,g2,g3,g4,g5,g6,g7⟩:=HT.out.1 d st rfl;simp only[Zet]at hown hok;obtain⟨g,rfl,hgb,hrow⟩:=ZbI.of_own hown (by omega);obtain⟨w2,hw2⟩:∃w2,w2=w1.alloc (.cells #[.int .i64 d.i,.int .i64 d.k,.int .i64 d.y,.int .i64 d.f,.int .i64 d.n] 44 (0,0)):=⟨_,rfl⟩
  have hb2:Below w1.heap.size w1 w2:=by rw[hw2];exact(Below.refl _ _).alloc (Nat.le_refl _) _
  have hblk:w2.heap[w1.heap.size]?=some (.cells #[.int .i64 d.i,.int .i64 d.k,.int .i64 d.y,.int .i64 d.f,.int .i64 d.n] 44 (0,0)):=by rw[hw2];exact heap_alloc_new w1 _
  have hb12:=hb1.trans (hb2.mono hb1.size);have hrow2:=hrow.keep (hb2.block g hrow.lt);have HST:=hid (show st.length=st.length/\1<=st.length/\st.length<=6/\(∀z∈st,ZaE z)from⟨rfl,g5,g6,hok⟩);have HB12:=hid hb12;have HT2:=hid (HT.out.2.2.1 d st rfl);have HT3:=hid (HT.out.2.2.2.1 d st rfl);have HT4:=hid (HT.out.2.2.2.2 d st rfl);clear HT hown hok hdok hb1 hb2 hrow g1 g2 g3 g4 g5 g6 g7;simp only[dcW,Option.map_some,Option.getD_some,Option.isSome_some,Zet];obtain⟨q0,q1,q2,q3,q4⟩:w2.cell? ⟨w1.heap.size,0,none⟩=some (.int .i64 d.i)/\w2.cell? ⟨w1.heap.size,1,none⟩=some (.int .i64 d.k)/\w2.cell? ⟨w1.heap.size,2,none⟩=some (.int .i64 d.y)/\w2.cell? ⟨w1.heap.size,3,none⟩=some (.int .i64 d.f)/\w2.cell? ⟨w1.heap.size,4,none⟩=some (.int .i64 d.n):=⟨cell_of_row w2 _ 0 _ _ (0,0) hblk,cell_of_row w2 _ 1 _ _ (0,0) hblk,cell_of_row w2 _ 2 _ _ (0,0) hblk,cell_of_row w2 _ 3 _ _ (0,0) hblk,cell_of_row w2 _ 4 _ _ (0,0) hblk⟩
  by_cases hdk:d.k=k
  · by_cases hdy:d.y=y
    · -- it is of this kind and year
      have HLQ:=hid (Zm8 hrow2 HST.out.2.2.2 HST.out.2.2.1 (A:=A) (m:=n) (c:=cap) (l:=l) (fun W hW=>HL.out W (Za.of_below (HB12.out.trans (hW.below (fun q hq=>by rw[hq];exact hgb) HB12.out.size)))) hn);obtain⟨dI,dK,dY,dF,dN⟩:=d;simp only at hdk hdy hw2 q0 q1 q2 q3 q4 HO;subst hdk hdy;have HT3':=hid (HT3.out rfl rfl);have HT4':=hid (HT4.out rfl rfl);clear HT2 HT3 HT4 hrow2 hblk;go_wp2_with fail;rw[<-hw2];clear hw2 q0 q1 q2 q3 q4;refine HLQ.out.mono ?_;rintro e w3⟨u,rfl,hlq1,hlq2,ht3⟩;have hb3:Below w.heap.size w w3:=HB12.out.trans (ht3.below (fun q hq=>by rw[hq];exact hgb) HB12.out.size);by_cases hz:(ZE st l).2=0
      · obtain⟨hrow3,hown3⟩:=hlq1 hz;have hokF:=(Zdd (l:=l) (st:=st) HST.out.2.2.2 HLEN.out.2).1;have hlenF:=ZcP l st;have hpl:=Zby hz;have hR:=HT4'.out hz;have hsame:=Zi4 (f:=f) HS.out.1 HST.out.2.2.1 hz;have htl:=Za5 l st hz;obtain⟨F,hF⟩:∃F,F=(ZE st l).1.1:=⟨_,rfl⟩
        obtain⟨tk,htk⟩:∃tk,tk=(ZE st l).1.2:=⟨_,rfl⟩
        rw[<-hF]at hokF hlenF hsame hrow3;rw[<-htk]at hown3 hR htl;rw[<-hsame]at hR;rw[hz];obtain⟨X3,hX3⟩:∃X3:Nat->Prop,X3=fun k=>X k∨(w.heap.size<=k/\k<w3.heap.size):=⟨_,rfl⟩
        have HX3:=hid (show(∀k,X k->X3 k)/\(∀k,X3 k->X k∨w.heap.size<=k)/\(∀k,w.heap.size<=k->k<w3.heap.size->X3 k)from by
         rw[hX3]
         exact⟨fun k hk=>.inl hk,fun k hk=>by rcases hk with hk|hk;exact .inl hk;exact .inr hk.1,fun k h1 h2=>.inr ⟨h1,h2⟩⟩)
        have H0:=hid (show Ze w3 X3 v m c (Zce f F (l.take 0) S)/\Za (fun k=>k=c) w w3/\Za (fun k=>k=c) w3 w3 from⟨by rw[hX3];exact(HV.out w3 hb3).1,(HV.out w3 hb3).2,Za.refl _ _⟩);clear hX3;have HF:=hid (And.intro hokF (And.intro hlenF (And.intro hpl (And.intro hrow3 (And.intro hown3 hR)))));have hs12:=HB12.out.size;have hg3:=hrow3.lt;have HSZ:=hid (And.intro hs12 hg3);clear hlq1 hlq2 ht3 hb3 hokF hlenF hpl hsame hrow3 hown3 hR HT3' HT4' HLQ hF htk htl hz;go_wp2_with fail
        go_loopw[52] (fun iv wr=>∃j:Nat,j<=n/\iv=.int .i64 j/\Hid (Ze wr X3 v m c (Zce f F (l.take j) S)/\Za (fun k=>k=c) w wr/\Za (fun k=>k=c) w3 wr)) (fun iv _=>n-(intOf iv).toNat)
        case atStart=>exact⟨0,Nat.zero_le _,rfl,H0⟩
        case round=>
         clear H0;obtain⟨j,hj,rfl,HJ⟩:=hrel;by_cases hlt:j<n
         · have hlt':(j:Int)<(n:Int):=by omega
           have hj0:(0:Int)<=(j:Int):=by omega
           obtain⟨hv,ht,ht3⟩:=HJ.out;obtain⟨x,hx⟩:∃x,l[j]?=some x:=⟨_,List.getElem?_eq_getElem (by rw[HLEN.out.1];exact hlt)⟩
           obtain⟨b,off,rfl,hb,hat⟩:=(HL.out wr ht).2.2 (by omega);obtain⟨c0,c1,c2,c3⟩:=hat j x hx;have hxok:=HLEN.out.2 x (List.mem_of_getElem? hx);obtain⟨wb,hwb⟩:∃wb,wb=wr.alloc (.cells #[.int .i64 x.f,.int .i64 x.o,.int .i64 x.n,.int .i64 x.a] 34 (0,0)):=⟨_,rfl⟩
           have hbb:Below wr.heap.size wr wb:=by rw[hwb];exact(Below.refl _ _).alloc (Nat.le_refl _) _
           have hblk:wb.heap[wr.heap.size]?=some (.cells #[.int .i64 x.f,.int .i64 x.o,.int .i64 x.n,.int .i64 x.a] 34 (0,0)):=by rw[hwb];exact heap_alloc_new wr _
           have hsz:wb.heap.size=wr.heap.size+1:=by rw[hwb];simp
           have hxp:=HF.out.2.2.1 x (List.mem_of_getElem? hx);obtain⟨p,hp⟩:∃p:Nat,x.n=p:=⟨x.n.toNat,by omega⟩
           have hpl:p<F.length:=by rw[HF.out.2.1];omega
           obtain⟨z,hz⟩:∃z,F[p]?=some z:=⟨_,List.getElem?_eq_getElem hpl⟩
           have hzok:=HF.out.1 z (List.mem_of_getElem? hz);have hrow:=HF.out.2.2.2.1.keep (ht3.block g HSZ.out.2 (fun e=>by omega));obtain⟨st',hst',hsl'⟩:=Ze3 (f:=f) HF.out.1 HF.out.2.1 (l:=l.take j) (S:=S) (st:=st) HS.out.1 (fun y hy=>HF.out.2.2.1 y (List.mem_of_mem_take hy)) HO.out.symm rfl;have hset:=ZcD hst' (j:=x.n) (by rw[hsl'];exact hxp) z;have hFS:=Zf9 (f:=f) (F:=F) hx S;rw[hp,Int.toNat_natCast,hz,Option.getD_some,<-hp]at hFS;have hCl:=Ze4 f F (l.take j) S;rw[List.length_take]at hCl;have hd:=(Below.refl wb.heap.size wb).drew;have HST2:=hid (ZeX ((hv.below hbb).below hd) f x.n z hzok hf hxok.2.2.1 (by have:=HS.out.2;have:=HLEN.out.1;omega));rw[hset]at HST2;have hrg:=hrow.lt
           have KK:=hid (show ∀W,Za (fun k=>k=c) wb W->(W.cell? ⟨g,p*4,none⟩=some (.int .i64 z.nd)/\W.cell? ⟨g,p*4+1,none⟩=some (.int .i64 z.o)/\W.cell? ⟨g,p*4+2,none⟩=some (.int .i64 z.l)/\W.cell? ⟨g,p*4+3,none⟩=some (.int .i64 z.c)/\W.cell? ⟨wr.heap.size,2,none⟩=some (.int .i64 x.n))from fun W hW=>by
            obtain⟨a0,a1,a2,a3⟩:=((hrow.keep (hbb.block g hrg)).keep (hW.block g (Nat.lt_of_lt_of_le hrg hbb.size) (fun e=>by omega))).cells hz;have hb:=(hW.block wr.heap.size (by omega) (fun e=>by have:=ht.size;omega)).trans hblk
            exact⟨a0,a1,a2,a3,cell_of_row W _ 2 _ _ (0,0) hb⟩)
           have c5:=KK.out _ (Za.of_below hd);have HTT:=hid (show Za (fun k=>k=c) w wb/\Za (fun k=>k=c) w3 wb from⟨ht.trans (Za.of_below hbb),ht3.trans (Za.of_below hbb)⟩);have HFS:=hid hFS;clear hv ht ht3 hx hb hat hxok hbb hblk hsz hxp hz hzok hrow hst' hsl' hset hFS hCl hd hrg HJ;obtain⟨xf,xo,xn,xa⟩:=x;obtain⟨zn,zo,zl,zc⟩:=z;simp only at hp HST2 KK c5 HFS hwb c0 c1 c2 c3;subst hp;have hp0:(0:Int)<=(p:Int):=by omega
           have hpl':(p:Int)<(st.length:Int):=by rw[HF.out.2.1]at hpl;omega
           go_wp2_with fail;rw[<-hwb];clear hwb c0 c1 c2 c3
           go_region_held3 (fun W=>W.cell? ⟨g,p*4,none⟩=some (.int .i64 zn)/\W.cell? ⟨g,p*4+1,none⟩=some (.int .i64 zo)/\W.cell? ⟨g,p*4+2,none⟩=some (.int .i64 zl)/\W.cell? ⟨g,p*4+3,none⟩=some (.int .i64 zc)/\W.cell? ⟨wr.heap.size,2,none⟩=some (.int .i64 p))
            (first|with_reducible exact c5|exact c5)
            (first|(go_at_call 165;refine Calls.mono HST2.out ?_;rintro e w5 ⟨rfl,hv5,ht5⟩;have ht5:=(Za.of_below (F:=fun k=>k=c) ((Below.refl wb.heap.size wb).drew)).trans ht5;have c5:=KK.out _ ht5))
           have HJ:=hid (show Ze w5 X3 v m c (Zce f F (l.take (j+1)) S)/\Za (fun k=>k=c) w w5/\Za (fun k=>k=c) w3 w5 from⟨by rw[HFS.out];exact hv5,HTT.out.1.trans ht5,HTT.out.2.trans ht5⟩);clear c5 hv5 ht5 KK HTT HFS HST2;go_wp2_with fail;go_roundw
           case rel=>exact⟨j+1,by omega,by go_num,HJ⟩
           case measure=>simp[intOf];omega
         · obtain rfl:j=n:=by omega
           have htk:l.take j=l:=List.take_of_length_le (by have:=HLEN.out.1;omega);obtain⟨hv,ht,ht3⟩:=HJ.out;rw[htk]at hv;obtain⟨f1,f2,f3,f4,f5,f6⟩:=HF.out
           have HE:=hid (show Zio w wr X v m c R (.returned (.tuple #[u,.int .i64 0]))from by
            rw[f6];refine⟨u,X3,HX3.out.1,HX3.out.2.1,fun b hb=>HX3.out.2.2 b (by have:=(f5.at_ b hb).1;have:=HSZ.out.1;omega) (f5.at_ b hb).2,rfl,hv,(f5.base_le HSZ.out.1).stays fun q hq=>ht3.block q (f5.at_ q hq).2 (fun e=>?_),ht⟩
            have:=(f5.at_ q hq).1
            have:=HSZ.out.1
            omega)
           clear hv ht ht3 f1 f2 f3 f4 f5 f6 HJ htk;go_wp2_with fail;go_ret2;exact HE.out
      · obtain rfl:=hlq2 hz;have hR:=HT3'.out hz;have k1:((ZE st l).2 != 0)=true:=by simp[hz]
        have HE:=hid (HBAD.out _ w3 hR hb3);clear hlq1 hlq2 ht3 hb3 hR HT3' HT4' hz;generalize (ZE st l).2=le at HE k1 ⊢;go_wp2_with fail;go_ret2;exact HE.out
    · have HE:=hid (HBAD.out 12 w2 (HT2.out (.inr hdy)) HB12.out);have k1:(d.k != k)=false:=by simp[hdk]
      have k2:(d.y != y)=true:=by simp[hdy]
      clear HT2 HT3 HT4 hrow2 hblk hdk hdy HO;obtain⟨dI,dK,dY,dF,dN⟩:=d;simp only at k1 k2 hw2 q0 q1 q2 q3 q4;go_wp2_with fail;rw[<-hw2];go_ret2;exact HE.out
  · have HE:=hid (HBAD.out 12 w2 (HT2.out (.inl hdk)) HB12.out);have k1:(d.k != k)=true:=by simp[hdk]
    clear HT2 HT3 HT4 hrow2 hblk hdk HO;obtain⟨dI,dK,dY,dF,dN⟩:=d;simp only at k1 hw2 q0 q1 q2 q3 q4;go_wp2_with fail;rw[<-hw2];go_ret2;exact HE.out
end
section
variable{w w':World}{X X':Nat->Prop}{v m c g:Nat}{S:VS}{T:TypeId}{k y f:Int}{wn:Bool}
theorem Zg9(h:Ze w X v m c S)(hg:X g)(hgv:g≠v/\g≠m/\g≠c)(ho:Zan w 117 g v k y f wn)(hy:ZS y)(z:Dl)(hz:ZaE z)(hC:S.C.length<=1000000) :
 Calls prog 122 #[.pointer (some ⟨g,0,none⟩),.agg #[.int .i64 z.nd,.int .i64 z.o,.int .i64 z.l,.int .i64 z.c]] w fun e w'=>e=.returned (.int .i64 (chargeR S y (expCh f z).i (expCh f z).p (expCh f z).e (expCh f z).q).1.2)/\Ze w' X v m c (chargeR S y (expCh f z).i (expCh f z).p (expCh f z).e (expCh f z).q).2/\Zan w' 117 g v k y f (wn||(chargeR S y (expCh f z).i (expCh f z).p (expCh f z).e (expCh f z).q).1.1)/\Za (fun k=>k=c∨k=g) w w':=by
 obtain⟨w1,hw1⟩:∃w1,w1=w.alloc (.cells #[.int .i64 z.nd,.int .i64 z.o,.int .i64 z.l,.int .i64 z.c] 50):=⟨_,rfl⟩
 have hb1:Below w.heap.size w w1:=by rw[hw1];exact(Below.refl _ _).alloc (Nat.le_refl _) _
 have hs1:w1.heap.size=w.heap.size+1:=by rw[hw1];simp
 have hblk:w1.heap[w.heap.size]?=some (.cells #[.int .i64 z.nd,.int .i64 z.o,.int .i64 z.l,.int .i64 z.c] 50 (0,0)):=by rw[hw1];exact heap_alloc_new w _
 have ho1:=ho.keep (hb1.block g ho.lt);have hcw:=h.lt c h.xc;have hgw:=ho.lt;have hd1:Below w1.heap.size w1 w1.drew:=(Below.refl _ _).drew
 have hpi:ZS (expCh f z).e:=by
  unfold expCh;simp only[];split
  · unfold ZS;omega
  · unfold wrap64 ZS;omega
 have HCH:=hid (Zf7 ((h.below hb1).below hd1) y (expCh f z).i (expCh f z).p (expCh f z).e (expCh f z).q hy (hz z.nd (by simp)) (show ZS 0 by unfold ZS;omega) hpi (hz z.o (by simp)) hC)
 have K:=hid (show ∀W,Za (fun k=>k=c) w1 W->(W.cell? ⟨g,0,none⟩=some (.pointer (some ⟨v,0,none⟩))/\W.cell? ⟨g,3,none⟩=some (.int .i64 y)/\W.cell? ⟨w.heap.size,0,none⟩=some (.int .i64 z.nd)/\W.cell? ⟨w.heap.size,1,none⟩=some (.int .i64 z.o))/\Zan W 117 g v k y f wn from fun W ht=>by
  have hb:=(ht.block w.heap.size (by omega) (by omega)).trans hblk;have ho2:=ho1.keep (ht.block g (by omega) (fun e=>hgv.2.2 e));obtain⟨c0,c1,c2,c3,c4,c5,c6⟩:=ho2.cells
  exact⟨⟨c0,c3,cell_of_row W _ 0 _ _ (0,0) hb,cell_of_row W _ 1 _ _ (0,0) hb⟩,ho2⟩)
 have HT1:=hid (show Za (fun k=>k=c∨k=g) w w1 from Za.of_below hb1);have HG:=hid (And.intro hg hgv);have c5:=(K.out _ (Za.of_below hd1)).1;have s4:=ho1.cells.2.2.2.2.1;have l1:w1.cell? ⟨w.heap.size,1,none⟩=some (.int .i64 z.o):=cell_of_row w1 _ 1 _ _ (0,0) hblk;clear h ho hb1 hblk ho1 hd1 hC hy hpi
 have hop:((expCh f z).i=z.nd/\(expCh f z).p=0/\(expCh f z).q=z.o)/\(f=0->(expCh f z).e=0)/\(f≠0->(expCh f z).e=wrap64 (-z.o)):=by
  refine⟨⟨rfl,rfl,rfl⟩,fun h=>?_,fun h=>?_⟩
  · subst h;rfl
  · unfold expCh;simp[h]
 generalize expCh f z=C at HCH hop ⊢;obtain⟨ci,cp,ce,cq⟩:=C;obtain⟨⟨rfl,rfl,rfl⟩,hp0,hp1⟩:=hop;simp only at HCH hp0 hp1 ⊢;generalize chargeR S y z.nd 0 ce z.o=R at HCH ⊢;obtain⟨⟨r1,r2⟩,S'⟩:=R;obtain⟨zn,zo,zl,zc⟩:=z;simp only at HCH K c5 hw1 l1 hp0 hp1 ⊢;rw[hw1]at s4 l1;by_cases hf:f=0
 · obtain rfl:=hp0 hf;subst hf;clear hp0 hp1;go_enter func122,ntmps122;go_wp2_with fail;rw[<-hw1];clear hw1
   go_region_held3 (fun W=>W.cell? ⟨g,0,none⟩=some (.pointer (some ⟨v,0,none⟩))/\W.cell? ⟨g,3,none⟩=some (.int .i64 y)/\W.cell? ⟨w.heap.size,0,none⟩=some (.int .i64 zn)/\W.cell? ⟨w.heap.size,1,none⟩=some (.int .i64 zo))
    (first|with_reducible exact c5|exact c5)
    (first|(go_at_call 189;refine Calls.mono HCH.out ?_;rintro e w2 ⟨rfl,h2,t2⟩;have t2:=(Za.of_below (F:=fun k=>k=c) ((Below.refl w1.heap.size w1).drew)).trans t2;have c5:=(K.out _ t2).1))
   have ho2:=(K.out _ t2).2;obtain⟨z0,z1,z2,z3,z4,z5,z6⟩:=ho2.cells;have f6:w2.frozen? ⟨g,6,none⟩=false:=by simp[World.frozen?,show w2.heap[g]?=_ from ho2]
   have HE:=hid (show ∀b:Bool,Ze (w2.setCell ⟨g,6,none⟩ (.bool b)) X v m c S'/\Zan (w2.setCell ⟨g,6,none⟩ (.bool b)) 117 g v k y 0 b/\Za (fun k=>k=c∨k=g) w (w2.setCell ⟨g,6,none⟩ (.bool b))from fun b=>
    ⟨h2.boxSet HG.out.1 HG.out.2 6 _,ho2.warn b,HT1.out.trans ((t2.mono fun k hk=>.inl hk).trans ⟨rfl,rfl,rfl,by simp,fun k hk hn=>heap_setCell_other _ _ _ _ (fun e=>hn (.inr e))⟩)⟩)
   clear c5 h2 t2 ho2 z0 z1 z2 z3 z4 z5 K HCH HG HT1 s4 l1;cases wn with
   | true=>
    go_wp2_with fail;go_ret;exact⟨rfl,HE.out true⟩
   | false=>
    go_wp2_with fail;go_ret;exact⟨rfl,HE.out r1⟩
 · have k1:(f != 0)=true:=by simp[hf]
   have hcp:=(hp1 hf).symm;have hcp':IntKind.i64.wrap (-zo)=ce:=(Zb8 _).trans hcp;clear hp0 hp1 hf;go_enter func122,ntmps122;go_wp2_with fail;rw[<-hw1];clear hw1
   go_region_held3 (fun W=>W.cell? ⟨g,0,none⟩=some (.pointer (some ⟨v,0,none⟩))/\W.cell? ⟨g,3,none⟩=some (.int .i64 y)/\W.cell? ⟨w.heap.size,0,none⟩=some (.int .i64 zn)/\W.cell? ⟨w.heap.size,1,none⟩=some (.int .i64 zo))
    (first|with_reducible exact c5|exact c5)
    (first|(go_at_call 189;refine Calls.mono HCH.out ?_;rintro e w2 ⟨rfl,h2,t2⟩;have t2:=(Za.of_below (F:=fun k=>k=c) ((Below.refl w1.heap.size w1).drew)).trans t2;have c5:=(K.out _ t2).1))
   have ho2:=(K.out _ t2).2;obtain⟨z0,z1,z2,z3,z4,z5,z6⟩:=ho2.cells;have f6:w2.frozen? ⟨g,6,none⟩=false:=by simp[World.frozen?,show w2.heap[g]?=_ from ho2]
   have HE:=hid (show ∀b:Bool,Ze (w2.setCell ⟨g,6,none⟩ (.bool b)) X v m c S'/\Zan (w2.setCell ⟨g,6,none⟩ (.bool b)) 117 g v k y f b/\Za (fun k=>k=c∨k=g) w (w2.setCell ⟨g,6,none⟩ (.bool b))from fun b=>
    ⟨h2.boxSet HG.out.1 HG.out.2 6 _,ho2.warn b,HT1.out.trans ((t2.mono fun k hk=>.inl hk).trans ⟨rfl,rfl,rfl,by simp,fun k hk hn=>heap_setCell_other _ _ _ _ (fun e=>hn (.inr e))⟩)⟩)
   clear c5 h2 t2 ho2 z0 z1 z2 z3 z4 z5 K HCH HG HT1 s4 l1;cases wn with
   | true=>
    go_wp2_with fail;go_ret;exact⟨rfl,HE.out true⟩
   | false=>
    go_wp2_with fail;go_ret;exact⟨rfl,HE.out r1⟩
end
theorem Zip{w:World}{x z:Ln}{T:TypeId}(hx:Za7 x)(hz:Za7 z):RL (w.alloc (.cells #[.int .i64 x.f,.int .i64 x.o,.int .i64 x.n,.int .i64 x.a,.int .i64 z.f,.int .i64 z.o,.int .i64 z.n,.int .i64 z.a] T (0,0))) (w.heap.size+1) (some ⟨w.heap.size,0,none⟩) 2 [x,z]:=by
 have hb:=heap_alloc_new w (.cells #[.int .i64 x.f,.int .i64 x.o,.int .i64 x.n,.int .i64 x.a,.int .i64 z.f,.int .i64 z.o,.int .i64 z.n,.int .i64 z.a] T (0,0))
 refine⟨rfl,fun y hy=>by
  rcases List.mem_cons.1 hy with rfl|hy
  · exact hx
  · obtain rfl:=List.mem_singleton.1 hy
    exact hz,fun _=>⟨w.heap.size,0,rfl,Nat.lt_succ_self _,fun j y hy=>?_⟩⟩
 have hj:=(List.getElem?_eq_some_iff.1 hy).1;have hj2:j<2:=hj;have hc:=fun k=>cell_of_row _ w.heap.size k _ T (0,0) hb
 obtain rfl|rfl:j=0∨j=1:=by omega
 · obtain rfl:x=y:=by simpa using hy
   exact⟨hc 0,hc 1,hc 2,hc 3⟩
 · obtain rfl:z=y:=by simpa using hy
   exact⟨hc 4,hc 5,hc 6,hc 7⟩
section
variable{w w':World}{X:Nat->Prop}{v m c:Nat}{S:VS}
theorem Zei(h:Ze w X v m c S)(y:Int)(hy:ZS y){A:Option Addr}{n cap:Nat}{l:List Dl}(hl:DlE.R w w.heap.size A n l)(hn:n<=1000) :
 Calls prog 26 #[.pointer (some ⟨v,0,none⟩),.int .i64 y,.slice A n cap] w fun e w'=>∃u,e=.returned u/\Z8 w' w.heap.size u (jLines S y l)/\Below w.heap.size w w':=by
 have HL:=hid hl;have HV:=hid h;have hlen:=hl.len;have HJOK:=hid (show ∀z∈l,∀x∈ZcW S y z,Za7 x from fun z hz=>Zk7 (fun n i hn=>h.nodeOk hn) (hl.ok z hz));clear h hl;go_enter func26,ntmps26;go_wp2_with fail
 go_loopw[7,14] (fun uv iv wr=>∃j:Nat,j<=n/\iv=.int .i64 j/\(∃A' j' k',uv=.slice A' j' k')/\Hid (Z8 wr w.heap.size uv (jLines S y (l.take j))/\Below w.heap.size w wr)) (fun _ iv _=>n-(intOf iv).toNat)
 case atStart=>exact⟨0,Nat.zero_le _,rfl,⟨none,0,0,rfl⟩,hid ⟨Z8.start _ _,Below.refl _ _⟩⟩
 case round=>
  obtain⟨j,hj,rfl,⟨A',j',k',rfl⟩,HJ⟩:=hrel;by_cases hlt:j<n
  · have hlt':(j:Int)<(n:Int):=by omega
    have hj0:(0:Int)<=(j:Int):=by omega
    obtain⟨hown,hbw⟩:=HJ.out;obtain⟨x,hx⟩:∃x,l[j]?=some x:=⟨_,List.getElem?_eq_getElem (by rw[hlen];exact hlt)⟩
    have hxok:=HL.out.ok x (List.mem_of_getElem? hx);have hjok:=HJOK.out x (List.mem_of_getElem? hx);obtain⟨b,off,rfl,hb,c0,c1,c2,c3⟩:=ZlF (HL.out.below hbw) hx;obtain⟨wb,hwb⟩:∃wb,wb=wr.alloc (.cells #[.int .i64 x.nd,.int .i64 x.o,.int .i64 x.l,.int .i64 x.c] 50 (0,0)):=⟨_,rfl⟩
    have hbb:Below wr.heap.size wr wb:=by rw[hwb];exact(Below.refl _ _).alloc (Nat.le_refl _) _
    have hblk:wb.heap[wr.heap.size]?=some (.cells #[.int .i64 x.nd,.int .i64 x.o,.int .i64 x.l,.int .i64 x.c] 50 (0,0)):=by rw[hwb];exact heap_alloc_new wr _
    have hsz:wb.heap.size=wr.heap.size+1:=by rw[hwb];simp
    have q0:wb.cell? ⟨wr.heap.size,0,none⟩=some (.int .i64 x.nd):=cell_of_row wb _ 0 _ _ (0,0) hblk;have HG:=hid (ZfE ((HV.out.below hbw).below hbb) y x.nd hy (hxok _ (by simp)));have hst:jLines S y (l.take (j+1))=jLines S y (l.take j)++ZcW S y x:=Zfg hx
    have hjl:ZcW S y x=match nodeAt S y x.nd with
     | none=>[]
     | some n=>[⟨n.f,n.o,0,x.o⟩,⟨n.f,1010,0,wrap64 (-x.o)⟩]:=rfl
    have hll:(jLines S y (l.take j)).length<=2000:=by
     have:=ZaR S y (l.take j)
     rw[List.length_take]at this;omega
    have HB:=hid (show Below w.heap.size w wb from hbw.trans (hbb.mono hbw.size));have HO:=hid (And.intro (hown.below hbb) (And.intro hll (And.intro hst hjok)));have HBLK:=hid (And.intro hblk hsz);clear hown hbw hx hb hblk hbb hsz hll hst HJ hxok hjok;obtain⟨o,ho⟩:∃o,o=nodeAt S y x.nd:=⟨_,rfl⟩
    rw[<-ho]at HG hjl;clear ho;obtain⟨xn,xo,xl,xc⟩:=x;simp only at HBLK hwb c0 c1 c2 c3 HG hjl HO q0;have q0':=q0;rw[hwb]at q0';go_wp2_with fail;rw[<-hwb];clear hwb c0 c1 c2 c3 q0 q0';refine HG.out.mono ?_;rintro e w3⟨rfl,hni,hb3⟩;clear HG;cases o with
    | none=>
     have HJ2:=hid (show Z8 (w3.alloc (.cells #[.int .i64 0,.int .i64 0,.int .i64 0,.int .i64 0,.int .i64 0,.bool false,.int .i64 0,.int .i64 0,.int .i64 0,.int .i64 0,.int .i64 0,.int .i64 0] 40 (0,0))) w.heap.size (.slice A' j' k') (jLines S y (l.take (j+1)))/\Below w.heap.size w (w3.alloc (.cells #[.int .i64 0,.int .i64 0,.int .i64 0,.int .i64 0,.int .i64 0,.bool false,.int .i64 0,.int .i64 0,.int .i64 0,.int .i64 0,.int .i64 0,.int .i64 0] 40 (0,0)))from by
      have hb4:Below wb.heap.size wb (w3.alloc (.cells #[.int .i64 0,.int .i64 0,.int .i64 0,.int .i64 0,.int .i64 0,.bool false,.int .i64 0,.int .i64 0,.int .i64 0,.int .i64 0,.int .i64 0,.int .i64 0] 40 (0,0))):=hb3.trans (((Below.refl w3.heap.size w3).alloc (Nat.le_refl _) _).mono hb3.size);refine⟨?_,HB.out.trans (hb4.mono HB.out.size)⟩;rw[HO.out.2.2.1,hjl,List.append_nil]
      exact HO.out.1.below hb4)
     clear hb3 hni HO HB HBLK hjl;simp only[ndW,ndO,Option.getD_none,Zd1,Option.isSome_none];go_wp2_with fail;go_roundw
     case rel=>exact⟨j+1,by omega,by go_num,⟨A',j',k',rfl⟩,HJ2⟩
     case measure=>simp[intOf];omega
    | some nd=>
     obtain⟨w4,hw4⟩:∃w4,w4=w3.alloc (.cells #[.int .i64 nd.y,.int .i64 nd.i,.int .i64 nd.p,.int .i64 nd.f,.int .i64 nd.o,.bool nd.ab,.int .i64 nd.li,.int .i64 nd.pr,.int .i64 nd.en,.int .i64 nd.ex,.int .i64 nd.la,.int .i64 nd.ca] 40 (0,0)):=⟨_,rfl⟩
     have hb4:Below w3.heap.size w3 w4:=by rw[hw4];exact(Below.refl _ _).alloc (Nat.le_refl _) _
     have hblk4:w4.heap[w3.heap.size]?=some (.cells #[.int .i64 nd.y,.int .i64 nd.i,.int .i64 nd.p,.int .i64 nd.f,.int .i64 nd.o,.bool nd.ab,.int .i64 nd.li,.int .i64 nd.pr,.int .i64 nd.en,.int .i64 nd.ex,.int .i64 nd.la,.int .i64 nd.ca] 40 (0,0)):=by rw[hw4];exact heap_alloc_new w3 _
     have f3:w4.cell? ⟨w3.heap.size,3,none⟩=some (.int .i64 nd.f):=cell_of_row w4 _ 3 _ _ (0,0) hblk4;have f4:w4.cell? ⟨w3.heap.size,4,none⟩=some (.int .i64 nd.o):=cell_of_row w4 _ 4 _ _ (0,0) hblk4;have hb34:=hb3.trans (hb4.mono hb3.size);have g1:w4.cell? ⟨wr.heap.size,1,none⟩=some (.int .i64 xo):=cell_of_row w4 _ 1 _ _ (0,0) ((hb34.block _ (by have:=HBLK.out.2;omega)).trans HBLK.out.1);obtain⟨neg,hneg⟩:∃neg,neg=wrap64 (-xo):=⟨_,rfl⟩
     have hneg':IntKind.i64.wrap (-xo)=neg:=(Zb8 _).trans hneg.symm;rw[<-hneg]at hjl;have hjk:=HO.out.2.2.2;rw[hjl]at hjk;have l1:=hjk _ List.mem_cons_self;have l2:=hjk _ (List.mem_cons_of_mem _ List.mem_cons_self);have hr5:=Zip (w:=w4) (x:=⟨nd.f,nd.o,0,xo⟩) (z:=⟨nd.f,1010,0,neg⟩) (T:=34) l1 l2;have hb5:Below w4.heap.size w4 (w4.alloc (.cells #[.int .i64 nd.f,.int .i64 nd.o,.int .i64 0,.int .i64 xo,.int .i64 nd.f,.int .i64 1010,.int .i64 0,.int .i64 neg] 34 (0,0))):=(Below.refl _ _).alloc (Nat.le_refl _) _;have hb35:=hb34.trans (hb5.mono hb34.size);obtain⟨v',w6,hrun,hown6,hb6,hgr,hgn⟩:=((HO.out.1).below hb35).appendL (c:=2) hr5 (by have:=HO.out.2.1;omega) (by omega) (Nat.le_trans HB.out.size hb35.size) 35;obtain⟨A6,k6,rfl,hk6⟩:=hown6.shape;have hs4:w4.heap.size=w3.heap.size+1:=by rw[hw4];simp
     rw[hs4]at hrun;have HRUN:=hid hrun;obtain⟨LN,hLN⟩:∃LN,LN=(jLines S y (l.take j)++[(⟨nd.f,nd.o,0,xo⟩:Ln),⟨nd.f,1010,0,neg⟩]).length:=⟨_,rfl⟩
     rw[<-hLN]at HRUN
     have HJ2:=hid (show Z8 w6 w.heap.size (.slice A6 LN k6) (jLines S y (l.take (j+1)))/\Below w.heap.size w w6 from by
      refine⟨?_,HB.out.trans ((hb35.mono HB.out.size).trans hb6)⟩;rw[HO.out.2.2.1,hjl,hLN]
      exact hown6)
     clear hb3 hni HO HB HBLK hjl hjk hrun hown6 hb6 hgr hgn hk6 hr5 hb5 hb35 hb34 hb4 hblk4 hneg l1 l2 hLN hs4;obtain⟨dy,di,dp,df,do_,dab,dli,dpr,den,dex,dla,dca⟩:=nd;simp only at HRUN hw4 f3 f4;have f3':=f3;have f4':=f4;have g1':=g1;rw[hw4]at f3' f4' g1' HRUN;simp only[ndW,ndO,Option.getD_some,Option.isSome_some]
     go_wp2_with (at_builtin;refine Lib.wpList_append_run _ rfl _ _ _ _ rfl _ _ rfl rfl _ _ HRUN.out ?_)
     go_roundw
     case rel=>exact⟨j+1,by omega,by go_num,⟨A6,LN,k6,rfl⟩,HJ2⟩
     case measure=>simp[intOf];omega
  · obtain rfl:j=n:=by omega
    have htk:l.take j=l:=List.take_of_length_le (by omega);have HE:=hid HJ.out;rw[htk]at HE;clear HJ htk;go_wp2_with fail;go_ret;exact⟨_,rfl,HE.out⟩
end
theorem ZbI.own{w:World}{g n cap base:Nat}{st:List Dl}(h:ZbI w g n cap st)(hb:base<=g):DlE.Own 50 w base (.slice (some ⟨g,0,none⟩) n cap) st:=by
 obtain⟨cur,h1,h2,h3,h4,h5,h6⟩:=h;subst h6;exact⟨Enc.all_length (E:=DlE) st,.inr ⟨g,cap,cur,rfl,hb,h1,h2,h3,h4,h5⟩⟩
theorem Zha{st:List Dl}{j:Nat}{z:Dl}(h:st[j]?=some z):((st.take j).map Zbo++st.drop j).set j ⟨z.nd,z.o,z.o,z.c⟩=(st.take (j+1)).map Zbo++st.drop (j+1):=by
 obtain⟨hj,rfl⟩:=List.getElem?_eq_some_iff.1 h;have hl:((st.take j).map Zbo).length=j:=by rw[List.length_map,List.length_take];omega
 rw[List.set_append_right _ _ (by omega),hl,Nat.sub_self,List.drop_eq_getElem_cons hj,List.set_cons_zero,List.take_succ_eq_append_getElem hj,List.map_append,List.append_assoc];rfl
theorem Zc6{st:List Dl}{j:Nat}{z:Dl}(h:st[j]?=some z):((st.take j).map Zbo++st.drop j)[j]?=some z:=by
 obtain⟨hj,rfl⟩:=List.getElem?_eq_some_iff.1 h;have hl:((st.take j).map Zbo).length=j:=by rw[List.length_map,List.length_take];omega
 rw[List.getElem?_append_right (by omega),hl,Nat.sub_self,List.getElem?_drop,Nat.add_zero];exact List.getElem?_eq_getElem hj
theorem Zni{S:VS}{k y f:Int}{l:List Ln}(h:(takeR S k y f l).1.2≠0):(takeR S k y f l).1.1 = []:=by
 unfold takeR at h ⊢
 cases hd:docGet S f with
 | none=>rfl
 | some u=>
  obtain⟨d,st⟩:=u;rw[hd]at h;dsimp only at h ⊢;by_cases g1:d.k≠k∨d.y≠y
  · rw[if_pos g1]
  · rw[if_neg g1]at h ⊢;by_cases g2:(ZE st l).2=0
    · rw[if_pos g2]at h;exact absurd rfl h
    · rw[if_neg g2]
theorem Ziq{w wr wb:World}{c g2 o:Nat}{x:Value}(ht:Za (fun k=>k=c) w wr)(hb:Below wr.heap.size wr wb)(hg:w.heap.size<=g2):Za (fun k=>k=c) w (wb.setCell ⟨g2,o,none⟩ x):=by
 have h:Za (fun k=>k=c∨w.heap.size<=k) w (wb.setCell ⟨g2,o,none⟩ x):=(ht.mono fun k hk=>.inl hk).trans ((Za.of_below hb).trans ⟨rfl,rfl,rfl,by simp,fun k hk hn=>heap_setCell_other _ _ _ _ (fun e=>hn (.inr (by rw[e];exact hg)))⟩);exact⟨h.os,h.tape,h.output,h.size,fun k hk hn=>h.block k hk fun e=>by rcases e with e|e;exact hn e;omega⟩
section
variable{w w':World}{X X':Nat->Prop}{v m c g:Nat}{S:VS}{T:TypeId}{k y f:Int}{wn:Bool}
theorem Zir(h:Ze w X v m c S)(hgv:g≠c)(ho:Zan w 117 g v k y f wn)(hf64:ZS f){A:Option Addr}{n cap:Nat}{l:List Ln}(hl:∀W,Za (fun k=>k=c) w W->RL W W.heap.size A n l)(hn:n<=1000)(hC:S.C.length<=100000) :
 Calls prog 121 #[.pointer (some ⟨g,0,none⟩),.slice A n cap] w fun e w'=>Zio w w' X v m c (Zcb S y f l) e:=by
 obtain⟨s0,s1,s2,s3,s4,s5,s6⟩:=ho.cells;by_cases hf:f=0
 · have hE:Zcb S y f l=(((l.map ZY).map Zbo,0),S):=if_pos hf;rw[hE];subst hf;have HL:=hid (hl w (Za.refl _ _));have HV:=hid (show ∀W,Below w.heap.size w W->Ze W (fun k=>X k∨(w.heap.size<=k/\k<W.heap.size)) v m c S/\Za (fun k=>k=c) w W from fun W hW=>⟨h.own_new hW,Za.of_below hW⟩);clear h ho hl hE s0 s1 s2 s3 s5 s6;go_enter func121,ntmps121;go_wp2_with fail
   go_loopw[6,21] (fun uv iv wr=>∃j:Nat,j<=n/\iv=.int .i64 j/\(∃A' k',uv=.slice A' j k')/\Hid (DlE.Own 50 wr w.heap.size uv (((l.take j).map ZY).map Zbo)/\Below w.heap.size w wr)) (fun _ iv _=>n-(intOf iv).toNat)
   case atStart=>exact⟨0,Nat.zero_le _,rfl,⟨none,0,rfl⟩,hid ⟨Enc.Own.start _ _ _,Below.refl _ _⟩⟩
   case round=>
    obtain⟨j,hj,rfl,⟨A',k',rfl⟩,HJ⟩:=hrel;by_cases hlt:j<n
    · have hlt':(j:Int)<(n:Int):=by omega
      have hj0:(0:Int)<=(j:Int):=by omega
      obtain⟨hown,hbw⟩:=HJ.out;obtain⟨x,hx⟩:∃x,l[j]?=some x:=⟨_,List.getElem?_eq_getElem (by rw[HL.out.1];exact hlt)⟩
      have hxok:=HL.out.2.1 x (List.mem_of_getElem? hx);obtain⟨b,off,rfl,hb,hat⟩:=(HL.out.below hbw).2.2 (by omega);obtain⟨c0,c1,c2,c3⟩:=hat j x hx;obtain⟨wb,hwb⟩:∃wb,wb=wr.alloc (.cells #[.int .i64 x.f,.int .i64 x.o,.int .i64 x.n,.int .i64 x.a] 34 (0,0)):=⟨_,rfl⟩
      have hbb:Below wr.heap.size wr wb:=by rw[hwb];exact(Below.refl _ _).alloc (Nat.le_refl _) _
      have hsz:wb.heap.size=wr.heap.size+1:=by rw[hwb];simp
      have htk:(((l.take j).map ZY).map Zbo).length=j:=by rw[List.length_map,List.length_map,List.length_take];have:=HL.out.1;omega
      have hb5:Below wb.heap.size wb (wb.alloc (.cells #[.int .i64 x.n,.int .i64 x.a,.int .i64 x.a,.int .i64 0] 50)):=(Below.refl _ _).alloc (Nat.le_refl _) _;have hb25:=hbb.trans (hb5.mono hbb.size);obtain⟨v',w6,hrun,hown6,hb6,hgr,hgn⟩:=(hown.below hb25).append1 DlT (x:=⟨x.n,x.a,x.a,0⟩) (heap_alloc_new wb _) rfl (Znq (ZcN hxok)) (by omega) (Nat.le_trans hbw.size hb25.size) 45;obtain⟨A6,k6,rfl,hk6⟩:=hown6.shape;have hl6:(((l.take j).map ZY).map Zbo++[(⟨x.n,x.a,x.a,0⟩:Dl)]).length=j+1:=by rw[List.length_append,htk];rfl
      rw[hl6]at hrun hown6;rw[hsz]at hrun;have HRUN:=hid hrun;have HJ2:=hid (show DlE.Own 50 w6 w.heap.size (.slice A6 (j+1) k6) (((l.take (j+1)).map ZY).map Zbo)/\Below w.heap.size w w6 from⟨by rw[ZeJ (f:=ZY) hx,List.map_append];exact hown6,(hbw.trans (hb25.mono hbw.size)).trans hb6⟩);rw[hwb]at HRUN;clear hown hbw hx hxok hat hb htk hb5 hb25 hbb hsz hwb wb hrun hown6 hb6 hgr hgn HJ hk6 hl6
      go_wp2_with (at_builtin;refine Lib.wpList_append_run _ rfl _ _ _ _ rfl _ _ rfl rfl _ _ HRUN.out ?_)
      go_roundw
      case rel=>exact⟨j+1,by omega,by go_num,⟨A6,k6,rfl⟩,HJ2⟩
      case measure=>simp[intOf];omega
    · obtain rfl:j=n:=by omega
      have htk:l.take j=l:=List.take_of_length_le (by have:=HL.out.1;omega);obtain⟨hown,hbw⟩:=HJ.out;rw[htk]at hown
      have HE:=hid (show Zio w wr X v m c (((l.map ZY).map Zbo,0),S) (.returned (.tuple #[.slice A' j k',.int .i64 0]))from
       ⟨_,_,fun k hk=>.inl hk,fun k hk=>by rcases hk with hk|hk;exact .inl hk;exact .inr hk.1,fun b hb=>.inr (hown.at_ b hb),rfl,(HV.out wr hbw).1,hown,(HV.out wr hbw).2⟩)
      clear hown hbw htk HJ;go_wp2_with fail;go_ret2;exact HE.out
 · have hE:Zcb S y f l=(((takeR S 2 y f l).1.1.map Zbo,(takeR S 2 y f l).1.2),(takeR S 2 y f l).2):=if_neg hf;rw[hE];have k1:(f == 0)=false:=by simp[hf]
   have hd:=(Below.refl w.heap.size w).drew;have HTK:=hid (Znh (cap:=cap) (h.below hd) 2 y f hf64 (fun W hW=>hl W ((Za.of_below hd).trans hW)) hn hC);have hgw:=ho.lt
   have KK:=hid (show ∀W,Za (fun k=>k=c) w W->W.cell? ⟨g,0,none⟩=some (.pointer (some ⟨v,0,none⟩))/\W.cell? ⟨g,3,none⟩=some (.int .i64 y)/\W.cell? ⟨g,4,none⟩=some (.int .i64 f)from fun W hW=>by
    obtain⟨a0,a1,a2,a3,a4,a5,a6⟩:=(ho.keep (hW.block g hgw hgv)).cells
    exact⟨a0,a3,a4⟩)
   have c5:=KK.out _ (Za.of_below hd);have HD:=hid (And.intro hd.size (And.intro (h.lt v h.xv) (And.intro (h.lt m h.xm) (h.lt c h.xc))))
   have hRok:(takeR S 2 y f l).1.1.length<=n∨(takeR S 2 y f l).1.1 = []:=by
    have hlen:=(hl w (Za.refl _ _)).len;by_cases h0:(takeR S 2 y f l).1.2=0
    · left;rw[Zbq h0,hlen];exact Nat.le_refl _
    · exact .inr (Zni h0)
   clear h ho hl hE s0 s1 s2 s3 s5 s6 hd hf;generalize takeR S 2 y f l=R at HTK hRok ⊢
   have hRl:R.1.1.length<=1000:=by
    rcases hRok with q|q
    · omega
    · rw[q];exact Nat.zero_le _
   clear hRok;go_enter func121,ntmps121;go_wp2_with fail
   go_region_held3 (fun W=>W.cell? ⟨g,0,none⟩=some (.pointer (some ⟨v,0,none⟩))/\W.cell? ⟨g,3,none⟩=some (.int .i64 y)/\W.cell? ⟨g,4,none⟩=some (.int .i64 f))
    (first|with_reducible exact c5|exact c5)
    (first|(go_at_call 195;refine Calls.mono HTK.out ?_;rintro e w2 ⟨u,X2,x1,x2,x3,rfl,h2,o2,t2⟩;have t2:=(Za.of_below (F:=fun k=>k=c) ((Below.refl w.heap.size w).drew)).trans t2;have c5:=KK.out _ t2))
   obtain⟨⟨R1,R2⟩,S2⟩:=R;simp only at h2 o2 hRl ⊢;have o2:=o2.base_le HD.out.1;obtain⟨A2,k2,rfl,hk2⟩:=o2.shape;have HX:=hid (And.intro x1 (And.intro x2 x3));obtain⟨N,hN⟩:∃N,N=R1.length:=⟨_,rfl⟩
   rw[<-hN]at hk2 o2 HX hRl ⊢;have HS2:=hid t2.size;by_cases h0:N=0
   · obtain rfl:R1 = []:=List.eq_nil_of_length_eq_zero (by omega);subst h0;have HE:=hid (show Zio w w2 X v m c (([],R2),S2) (.returned (.tuple #[.slice A2 0 k2,.int .i64 R2]))from⟨_,X2,HX.out.1,fun k hk=>by rcases HX.out.2.1 k hk with q|q;exact .inl q;exact .inr q,HX.out.2.2,rfl,h2,o2,t2⟩);clear c5 h2 o2 t2 KK HTK HX HS2 hk2 hN hRl;go_wp2_with fail
     go_loopw[58] (fun iv wr=>iv=.int .i64 0/\wr=w2) (fun _ _=>0)
     case atStart=>exact⟨rfl,rfl⟩
     case round=>
      obtain⟨rfl,rfl⟩:=hrel;go_wp2_with fail;go_ret2;exact HE.out
   · obtain⟨g2,rfl,hg2,hrow⟩:=ZbI.of_own o2 (by omega);have hgx:=HX.out.2.2 g2 (by simp[Value.ownBlock]);have hgv2:g2≠v/\g2≠m/\g2≠c:=by have:=HD.out.2;omega
     have hNl:R1.length=N:=hN.symm;have H0:=hid (show ZbI w2 g2 N k2 ((R1.take 0).map Zbo++R1.drop 0)/\Ze w2 X2 v m c S2/\Za (fun k=>k=c) w w2 from⟨by simpa using hrow,h2,t2⟩);have HGG:=hid (And.intro hg2 (And.intro hgx (And.intro hgv2 hNl)));clear c5 h2 o2 t2 KK HTK hk2 hrow hg2 hgx hgv2 hNl h0 hN;go_wp2_with fail
     go_loopw[58] (fun iv wr=>∃j:Nat,j<=N/\iv=.int .i64 j/\Hid (ZbI wr g2 N k2 ((R1.take j).map Zbo++R1.drop j)/\Ze wr X2 v m c S2/\Za (fun k=>k=c) w wr)) (fun iv _=>N-(intOf iv).toNat)
     case atStart=>exact⟨0,Nat.zero_le _,rfl,H0⟩
     case round=>
      clear H0;obtain⟨j,hj,rfl,HJ⟩:=hrel;by_cases hlt:j<N
      · have hlt':(j:Int)<(N:Int):=by omega
        have hj0:(0:Int)<=(j:Int):=by omega
        obtain⟨hrow,hv,ht⟩:=HJ.out;obtain⟨x,hx⟩:∃x,R1[j]?=some x:=⟨_,List.getElem?_eq_getElem (by rw[HGG.out.2.2.2];exact hlt)⟩
        obtain⟨c0,c1,c2,c3⟩:=hrow.cells (Zc6 hx);obtain⟨wb,hwb⟩:∃wb,wb=wr.alloc (.cells #[.int .i64 x.nd,.int .i64 x.o,.int .i64 x.l,.int .i64 x.c] 50 (0,0)):=⟨_,rfl⟩
        have hbb:Below wr.heap.size wr wb:=by rw[hwb];exact(Below.refl _ _).alloc (Nat.le_refl _) _
        have hblk:wb.heap[wr.heap.size]?=some (.cells #[.int .i64 x.nd,.int .i64 x.o,.int .i64 x.l,.int .i64 x.c] 50 (0,0)):=by rw[hwb];exact heap_alloc_new wr _
        have q1:wb.cell? ⟨wr.heap.size,1,none⟩=some (.int .i64 x.o):=cell_of_row wb _ 1 _ _ (0,0) hblk;have hrowb:=hrow.keep (hbb.block g2 hrow.lt);obtain⟨e0,e1,e2,e3⟩:=hrowb.cells (Zc6 hx);have fz:=hrowb.frozen (j*4+2);have hset:=hrowb.set (Zc6 hx) x.o;rw[Zha hx]at hset
        have HJ2:=hid (show ZbI (wb.setCell ⟨g2,j*4+2,none⟩ (.int .i64 x.o)) g2 N k2 ((R1.take (j+1)).map Zbo++R1.drop (j+1))/\Ze (wb.setCell ⟨g2,j*4+2,none⟩ (.int .i64 x.o)) X2 v m c S2/\Za (fun k=>k=c) w (wb.setCell ⟨g2,j*4+2,none⟩ (.int .i64 x.o))from
         ⟨hset,(hv.below hbb).boxSet HGG.out.2.1 HGG.out.2.2.1 _ _,Ziq ht hbb HGG.out.1⟩)
        clear hrow hv ht hx hrowb hset HJ hbb hblk;obtain⟨xn,xo,xl,xc⟩:=x;simp only at HJ2 hwb c0 c1 c2 c3 e0 e1 e2 e3 q1;have q1':=q1;have fz':=fz;have e2':=e2;rw[hwb]at q1' fz' e2' HJ2;go_wp2_with fail;go_roundw
        case rel=>exact⟨j+1,by omega,by go_num,HJ2⟩
        case measure=>simp[intOf];omega
      · obtain rfl:j=N:=by omega
        obtain⟨hrow,hv,ht⟩:=HJ.out
        have htk:(R1.take j).map Zbo++R1.drop j=R1.map Zbo:=by
         rw[List.take_of_length_le (by have:=HGG.out.2.2.2;omega),List.drop_eq_nil_of_le (by have:=HGG.out.2.2.2;omega),List.append_nil]
        rw[htk]at hrow;have HE:=hid (show Zio w wr X v m c ((R1.map Zbo,R2),S2) (.returned (.tuple #[.slice (some ⟨g2,0,none⟩) j k2,.int .i64 R2]))from⟨_,X2,HX.out.1,fun k hk=>by rcases HX.out.2.1 k hk with q|q;exact .inl q;exact .inr q,HX.out.2.2,rfl,hv,hrow.own HGG.out.1,ht⟩);clear hrow hv ht htk HJ;go_wp2_with fail;go_ret2;exact HE.out
end
end Go.Proofs.YtiknkbpojmgbhaaGreat
