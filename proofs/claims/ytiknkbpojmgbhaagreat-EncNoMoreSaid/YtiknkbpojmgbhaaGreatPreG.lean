/- RunA, PreE, PreF, PreG. Conditions: in each theorem. -/
import Derived.Test.YtiknkbpojmgbhaaGreatBase
import Derived.Lib.AppendZeros
import Derived.Test.YtiknkbpojmgbhaaGreatCtlR
import Derived.Test.YtiknkbpojmgbhaaGreatPreD
set_option maxHeartbeats 6400000
set_option maxRecDepth 100000
set_option linter.unusedVariables false
open Go.Proofs.Tryz
open Go.Lib (hid)
namespace Go.Proofs.YtiknkbpojmgbhaaGreat
open Go.RowKit
theorem Zcq{P:Program}{ops:Array Oper}{o:Oper}{a:Act}{w:World}{K:Act->World->Prop}{Q:Exit->Act->World->Prop}{E:Prop}(hgd:o.guard=none)(s x:Operand)(t tn:TypeId)
 (ho:o.op=.call {callee:=.builtin .append,args:=#[s,x],argTypes:=#[t,tn]}) (v u:Value) (hs:a.eval s=v) (hx:a.eval x=u) {v':Value} {w':World}
 (hrun:(Builtin.append_ #[t,tn] o.type #[v,u]).run P w=.ok v' w') (h:K (a.put o.dst v') w') :
 if Region.wanted o (yielded ops a.tmps)=true then Oper.wp P o a w K Q else E:=by
 have hw:Region.wanted o (yielded ops a.tmps)=true:=by simp[Region.wanted,hgd]
 rw[if_pos hw];exact Lib.wp_append_run w s x t tn ho v u hs hx _ _ hrun h
end Go.Proofs.YtiknkbpojmgbhaaGreat
namespace Go.Proofs.YtiknkbpojmgbhaaGreat
open Go.RowKit Go.Maps
theorem Zht{w:World}{B n:Nat}{A:Option Addr}{ps:List Ln}(c:Nat)(hr:RL w B A n ps)(hm:n<=maxLen) :
 Calls prog 112 #[.slice A n c] w fun e w'=>e=.returned (.int .i64 (preChk ps))/\w=w':=by
 have hs:preChk ps=if n<1∨n>6∨ps.any ZhZ=true then 1 else 0:=by unfold preChk;rw[hr.1];rfl
 have HR:=hid hr;obtain⟨pc,hpc⟩:∃pc,pc=preChk ps:=⟨_,rfl⟩
 rw[<-hpc]at hs ⊢;clear hpc hr;have E:=hid hs;clear hs;unfold maxLen at hm;by_cases h:n<1
 · have k0:decide ((n:Int)<1)=true:=decide_eq_true (by omega);obtain rfl:=E.out.trans (if_pos (.inl h));clear h E;go_enter func112,ntmps112;go_wp2_with fail;go_ret;exact⟨rfl,rfl⟩
 · have k0:decide ((n:Int)<1)=false:=decide_eq_false (by omega);by_cases h6:n>6
   · have k1:decide ((n:Int)>6)=true:=decide_eq_true (by omega);obtain rfl:=E.out.trans (if_pos (.inr (.inl h6)));clear h h6 E;go_enter func112,ntmps112;go_wp2_with fail;go_ret;exact⟨rfl,rfl⟩
   · have k1:decide ((n:Int)>6)=false:=decide_eq_false (by omega);have E1:=hid (fun hb:ps.any ZhZ=true=>E.out.trans (if_pos (.inr (.inr hb))));have E2:=hid (fun hb:ps.any ZhZ=false=>E.out.trans (if_neg (by rintro(a|a|a);exact h a;exact h6 a;rw[hb]at a;cases a)));have H6:=hid (show n<=6 by omega);clear E h h6;go_enter func112,ntmps112;go_wp2_with fail
     go_loop[3] (fun i=>∃j:Nat,j<=n/\i=.int .i64 j/\Hid (∀(m:Nat) (y:Ln),m<j->ps[m]?=some y->ZhZ y=false)) (fun i=>n-(intOf i).toNat)
     case atStart=>exact⟨0,Nat.zero_le _,rfl,hid (fun m y hm=>absurd hm (by omega))⟩
     case round=>
      obtain⟨j,hj,rfl,hbef⟩:=hrel;by_cases hlt:j<n
      · have hlt':(j:Int)<(n:Int):=by omega
        obtain⟨b,off,rfl,hb,hat⟩:=HR.out.2.2 (by omega);obtain⟨y,hy⟩:∃y,ps[j]?=some y:=⟨_,List.getElem?_eq_getElem (by rw[HR.out.1];exact hlt)⟩
        obtain⟨c0,c1,c2,c3⟩:=hat j y hy;have HF:=hid (Zhs y.a w);have HY:=hid hy;have hbd:ZhZ y = !amtRightB y.a:=rfl
        cases hk:amtRightB y.a with
        | true=>
         rw[hk]at HF hbd
         have hn:=hid (fun(m:Nat) (z:Ln) (hm:m<j+1)=>show ps[m]?=some z->ZhZ z=false by
          intro hz;rcases Nat.lt_or_ge m j with h|h
          · exact hbef.out m z h hz
          · obtain rfl:m=j:=by omega
            rw[HY.out]at hz;cases hz
            exact hbd)
         clear hk hbd hat hy;go_wp2_with fail;refine HF.out.mono ?_;rintro e w'⟨rfl,rfl⟩;clear c0 c1 c2 c3;go_wp2_with fail
         go_round
         case rel=>exact⟨j+1,by omega,by go_num,hn⟩
         case measure=>simp[intOf];omega
        | false=>
         rw[hk]at HF hbd;obtain rfl:=E1.out (List.any_eq_true.2 ⟨y,List.mem_of_getElem? hy,hbd⟩);clear hk hbd hat hy;go_wp2_with fail;refine HF.out.mono ?_;rintro e w'⟨rfl,rfl⟩;clear c0 c1 c2 c3;go_wp2_with fail;go_ret;exact⟨rfl,rfl⟩
      · obtain rfl:j=n:=by omega
        obtain rfl:=E2.out (List.any_eq_false.2 (fun y hy=>by
         obtain⟨k,hk,rfl⟩:=List.getElem_of_mem hy;rw[hbef.out k _ (by rw[HR.out.1]at hk;exact hk) (List.getElem?_eq_getElem hk)]
         decide))
        go_wp2_with fail;go_ret;exact⟨rfl,rfl⟩
theorem Zgv{w:World}{B n:Nat}{A:Option Addr}{l:List Ln}(cap:Nat)(hr:RL w B A n l)(hB:B<=w.heap.size)(hm:n<=1000) :
 Calls prog 57 #[.slice A n cap] w fun e w'=>∃u,e=.returned u/\DlE.Own 50 w' w.heap.size u (l.map ZY)/\Below w.heap.size w w':=by
 have HR:=hid hr;clear hr;go_enter func57,ntmps57;go_wp2_with fail
 go_loopw[3,4] (fun uv iv wr=>∃j:Nat,j<=n/\iv=.int .i64 j/\(∃A' k',uv=.slice A' j k')/\Hid (DlE.Own 50 wr w.heap.size uv ((l.take j).map ZY)/\Below w.heap.size w wr)) (fun _ iv _=>n-(intOf iv).toNat)
 case atStart=>exact⟨0,Nat.zero_le _,rfl,⟨none,0,rfl⟩,hid ⟨Enc.Own.start _ _ _,Below.refl _ _⟩⟩
 case round=>
  obtain⟨j,hj,rfl,⟨A',k',rfl⟩,HJ⟩:=hrel;by_cases hlt:j<n
  · have hlt':(j:Int)<(n:Int):=by omega
    have hj0:(0:Int)<=(j:Int):=by omega
    obtain⟨hown,hbw⟩:=HJ.out;obtain⟨x,hx⟩:∃x,l[j]?=some x:=⟨_,List.getElem?_eq_getElem (by rw[HR.out.1];exact hlt)⟩
    have hxok:=HR.out.2.1 x (List.mem_of_getElem? hx);obtain⟨b,off,rfl,hb,hat⟩:=(HR.out.below (hbw.mono hB)).2.2 (by omega);obtain⟨c0,c1,c2,c3⟩:=hat j x hx;have hd:=(Below.refl wr.heap.size wr).drew;have d2:wr.drew.cell? ⟨b,off+j*4+2,none⟩=some (.int .i64 x.n):=c2;have d3:wr.drew.cell? ⟨b,off+j*4+3,none⟩=some (.int .i64 x.a):=c3;have htk:((l.take j).map ZY).length=j:=by rw[List.length_map,List.length_take];have:=HR.out.1;omega
    have hb5:Below wr.heap.size wr (wr.alloc (.cells #[.int .i64 x.n,.int .i64 x.a,.int .i64 0,.int .i64 0] 50)).drew:=((Below.refl _ _).alloc (Nat.le_refl _) _).drew;obtain⟨v',w6,hrun,hown6,hb6,hgr,hgn⟩:=(hown.below hb5).append1 DlT (x:=⟨x.n,x.a,0,0⟩) (heap_alloc_new wr _) rfl (ZcN hxok) (by omega) (Nat.le_trans hbw.size hb5.size) 45;obtain⟨A6,k6,rfl,hk6⟩:=hown6.shape;have hl6:((l.take j).map ZY++[(⟨x.n,x.a,0,0⟩:Dl)]).length=j+1:=by rw[List.length_append,htk];rfl
    rw[hl6]at hrun hown6;have HRUN:=hid hrun;have HJ2:=hid (show DlE.Own 50 w6 w.heap.size (.slice A6 (j+1) k6) ((l.take (j+1)).map ZY)/\Below w.heap.size w w6 from⟨by rw[ZeJ (f:=ZY) hx];exact hown6,(hbw.trans (hb5.mono hbw.size)).trans hb6⟩);clear hown hbw hx hxok hat hb htk hb5 hrun hown6 hk6 hl6 hb6 hgr hgn HJ hd;go_wp2_with fail
    go_region_law (refine Zcq rfl (.tmp 11) (.tmp 23) _ _ rfl _ _ (by rfl) (by rfl) HRUN.out ?_)
    all_goals
     clear HRUN c0 c1 c2 c3 d2 d3;go_wp2_with fail;go_roundw
     case rel=>exact⟨j+1,by omega,by go_num,⟨A6,k6,rfl⟩,HJ2⟩
     case measure=>simp[intOf];omega
  · obtain rfl:j=n:=by omega
    have htk:l.take j=l:=List.take_of_length_le (by have:=HR.out.1;omega);have hj:=HJ.out;rw[htk]at hj;have HE:=hid hj;clear HJ hj htk;go_wp2_with fail;go_ret;exact⟨_,rfl,HE.out⟩
def ZmH(p e q:Int)(z:Dl):Chg:=⟨z.nd,wrap64 (p*z.o),wrap64 (e*z.o),wrap64 (q*z.o)⟩
theorem ZbK{a:Int}(h:ZS a):wrap64 a=a:=by unfold ZS at h;unfold wrap64;omega
def Zhu(w w':World)(X:Nat->Prop)(x p q r:Nat)(a:TL)(N:Nat)(S:VS)(R:(Bool×Int)×VS)(u:Ending):Prop:=
 ∃(b:Bool) (T:VS),u=.returned (.tuple #[.bool b,.int .i64 R.1.2])/\(R.1.2=0->b=R.1.1/\T=R.2)/\ZP w' X x p q r a T N/\Zv T N/\T.W=S.W/\Za (fun k=>k=q∨k=r) w w'
def Zar(w w':World)(X:Nat->Prop)(x p q r:Nat)(a:TL)(N:Nat)(S:VS)(R:(Int×Bool×Int)×VS)(u:Ending):Prop:=
 ∃T:VS,u=.returned (.tuple #[.int .i64 R.1.1,.bool R.1.2.1,.int .i64 R.1.2.2])/\(R.1.2.2=0->T=R.2)/\ZP w' X x p q r a T N/\Zv T N/\T.W=S.W/\Za (fun k=>k=q∨k=r) w w'
section
variable{w w':World}{X:Nat->Prop}{x p q r N:Nat}{a:TL}{S:VS}
theorem Zen(h:ZP w X x p q r a S N)(hN:N<=1000000000)(y:Int)(hy:ZS y) :
 Calls prog 111 #[.pointer (some ⟨x,0,none⟩),.int .i64 y] w fun e w'=>e=.returned (.int .i64 (yChk S y))/\Below w.heap.size w w':=by
 obtain⟨b,d,h1,h2,h3,h4⟩:=h
 have:=ZjK h1 (Nat.le_trans h3 (by omega)) y hy
 rwa[h2.now]at this
theorem Zgw(h:ZP w X x p q r a S N)(hN:N<=1000000000)(y:Int)(hy:ZS y){A:Option Addr}{n cap:Nat}{l:List Ln}(hl:∀W,Below w.heap.size w W->RL W W.heap.size A n l)(hn:n<=maxLen) :
 Calls prog 56 #[.pointer (some ⟨x,0,none⟩),.int .i64 y,.slice A n cap] w fun e w'=>e=.returned (.int .i64 (if yChk S y=0 then preChk l else yChk S y))/\Below w.heap.size w w':=by
 have HY:=hid (Zen h hN y hy);have HC:=hid (fun W (hW:Below w.heap.size w W)=>Zht cap (hl W hW) hn);clear h hl;generalize yChk S y=yc at HY ⊢;generalize preChk l=pc at HC ⊢;by_cases h0:yc=0
 · subst h0;rw[if_pos rfl];go_enter func56,ntmps56;go_wp2_with fail;refine HY.out.mono ?_;rintro e w2⟨rfl,h2⟩;have HC2:=hid (HC.out w2 h2);have H2:=hid h2;clear h2 HC HY;go_wp2_with fail;refine HC2.out.mono ?_;rintro e w'⟨rfl,rfl⟩;go_wp2_with fail;go_ret;exact⟨rfl,H2.out⟩
 · rw[if_neg h0];have k1:(yc != 0)=true:=by simp[h0]
   clear h0 HC;go_enter func56,ntmps56;go_wp2_with fail;refine HY.out.mono ?_;rintro e w2⟨rfl,h2⟩;have H2:=hid h2;clear h2 HY;go_wp2_with fail;go_ret;exact⟨rfl,H2.out⟩
theorem ZqJ{w:World}{B:Nat}{A:Option Addr}{n:Nat}{l:List Dl}(h:DlE.R w B A n l){j:Nat}{z:Dl}(hz:l[j]?=some z):∃b off,A=some ⟨b,off,none⟩/\b<B/\w.cell? ⟨b,off+j*4,none⟩=some (.int .i64 z.nd)/\w.cell? ⟨b,off+j*4+1,none⟩=some (.int .i64 z.o)/\w.cell? ⟨b,off+j*4+2,none⟩=some (.int .i64 z.l)/\w.cell? ⟨b,off+j*4+3,none⟩=some (.int .i64 z.c):=by
 have hj:=(List.getElem?_eq_some_iff.1 hz).1;obtain⟨b,off,rfl,hb,hc⟩:=h.2.2 (by rw[<-h.len];omega);have h2:=hc j z hz;exact⟨b,off,rfl,hb,h2 0 (by decide),h2 1 (by decide),h2 2 (by decide),h2 3 (by decide)⟩
theorem Zdw(h:ZP w X x p q r a S N)(hm:Zv S N)(hN:N<=100000)(y:Int)(hy:ZS y){A:Option Addr}{n cap:Nat}{l:List Dl}(hl:∀W,Za (fun k=>k=q∨k=r) w W->DlE.R W W.heap.size A n l)(hn:n<=1000)(pp ee xx:Int) :
 Calls prog 59 #[.pointer (some ⟨x,0,none⟩),.int .i64 y,.slice A n cap,.int .i64 pp,.int .i64 ee,.int .i64 xx] w fun u w'=>Zhu w w' X x p q r a (N+8*n) S (runC y S false (l.map (ZmH pp ee xx))) u:=by
 have HL:=hid hl;have hlen:=(hl w (Za.refl _ _)).len;have hlok:=(hl w (Za.refl _ _)).ok;have HLEN:=hid (And.intro hlen hlok);have H0:=hid (show ZP w X x p q r a (runC y S false ((l.map (ZmH pp ee xx)).take 0)).2 (N+8*0)/\Zv (runC y S false ((l.map (ZmH pp ee xx)).take 0)).2 (N+8*0)/\(runC y S false ((l.map (ZmH pp ee xx)).take 0)).1.2=0/\Za (fun k=>k=q∨k=r) w w from⟨h,hm,rfl,Za.refl _ _⟩);clear h hm hl hlen hlok;obtain⟨cs,hcs⟩:∃cs,cs=l.map (ZmH pp ee xx):=⟨_,rfl⟩
 rw[<-hcs]at H0 ⊢;have HCS:=hid hcs;clear hcs;go_enter func59,ntmps59;go_wp2_with fail
 go_loopw[14,15] (fun uv iv wr=>∃j:Nat,j<=n/\iv=.int .i64 j/\uv=.bool (runC y S false (cs.take j)).1.1/\Hid (ZP wr X x p q r a (runC y S false (cs.take j)).2 (N+8*j)/\Zv (runC y S false (cs.take j)).2 (N+8*j)/\(runC y S false (cs.take j)).1.2=0/\Za (fun k=>k=q∨k=r) w wr)) (fun _ iv _=>n-(intOf iv).toNat)
 case atStart=>exact⟨0,Nat.zero_le _,rfl,rfl,H0⟩
 case round=>
  clear H0;obtain⟨j,hj,rfl,rfl,HJ⟩:=hrel;by_cases hlt:j<n
  · have hlt':(j:Int)<(n:Int):=by omega
    have hj0:(0:Int)<=(j:Int):=by omega
    obtain⟨hrs,hms,hz,ht⟩:=HJ.out;obtain⟨z,hz1⟩:∃z,l[j]?=some z:=⟨_,List.getElem?_eq_getElem (by rw[HLEN.out.1];exact hlt)⟩
    have hzok:=HLEN.out.2 z (List.mem_of_getElem? hz1);obtain⟨b,off,rfl,hb,c0,c1,c2,c3⟩:=ZqJ (HL.out wr ht) hz1;have hcm:cs[j]?=some (ZmH pp ee xx z):=by rw[HCS.out,List.getElem?_map,hz1];rfl
    have hW:=Zgx y (cs.take j) S false;have HCH:=hid (ZjM hrs hms (by omega) y z.nd (wrap64 (pp*z.o)) (wrap64 (ee*z.o)) (wrap64 (xx*z.o)) hy (hzok _ (by simp)) (ZbG _) (ZbG _) (ZbG _));have HOK:=hid (show(chargeR (runC y S false (cs.take j)).2 y z.nd (wrap64 (pp*z.o)) (wrap64 (ee*z.o)) (wrap64 (xx*z.o))).1.2=0->runC y S false (cs.take (j+1))=(((runC y S false (cs.take j)).1.1||(chargeR (runC y S false (cs.take j)).2 y z.nd (wrap64 (pp*z.o)) (wrap64 (ee*z.o)) (wrap64 (xx*z.o))).1.1,0),(chargeR (runC y S false (cs.take j)).2 y z.nd (wrap64 (pp*z.o)) (wrap64 (ee*z.o)) (wrap64 (xx*z.o))).2)from fun h2=>Zfq hcm hz h2);have HBAD:=hid (show(chargeR (runC y S false (cs.take j)).2 y z.nd (wrap64 (pp*z.o)) (wrap64 (ee*z.o)) (wrap64 (xx*z.o))).1.2≠0->runC y S false cs=(((runC y S false (cs.take j)).1.1,(chargeR (runC y S false (cs.take j)).2 y z.nd (wrap64 (pp*z.o)) (wrap64 (ee*z.o)) (wrap64 (xx*z.o))).1.2),(chargeR (runC y S false (cs.take j)).2 y z.nd (wrap64 (pp*z.o)) (wrap64 (ee*z.o)) (wrap64 (xx*z.o))).2)from fun h2=>Zhv hcm hz h2);have HT:=hid (And.intro ht hW);clear hrs hms hz ht hz1 hzok hb hcm hW HJ;obtain⟨zn,zo,zl,zc⟩:=z;simp only at HCH HOK HBAD c0 c1 c2 c3;have d7:IntKind.i64.wrap (pp*zo)=wrap64 (pp*zo):=Zb7 _;have d8:IntKind.i64.wrap (ee*zo)=wrap64 (ee*zo):=Zb7 _;have d9:IntKind.i64.wrap (xx*zo)=wrap64 (xx*zo):=Zb7 _;generalize wrap64 (pp*zo)=g7 at HCH HOK HBAD d7;generalize wrap64 (ee*zo)=g8 at HCH HOK HBAD d8;generalize wrap64 (xx*zo)=g9 at HCH HOK HBAD d9;generalize runC y S false (cs.take j)=Rj at HCH HOK HBAD HT ⊢;obtain⟨⟨bj,ej⟩,Sj⟩:=Rj;simp only at HCH HOK HBAD HT ⊢;generalize chargeR Sj y zn g7 g8 g9=R2 at HCH HOK HBAD;obtain⟨⟨r1,r2⟩,S2⟩:=R2;simp only at HCH HOK HBAD;go_wp2_with fail;refine HCH.out.mono ?_;rintro u w4⟨T,rfl,hT,h4,m4,tw4,t4⟩;clear HCH c0 c1 c2 c3 d7 d8 d9;by_cases hr2:r2=0
    · subst hr2;obtain rfl:=hT (by first|rfl|trivial);have hR:=HOK.out (by first|rfl|trivial)
      have HJ:=hid (show ZP w4 X x p q r a (runC y S false (cs.take (j+1))).2 (N+8*(j+1))/\Zv (runC y S false (cs.take (j+1))).2 (N+8*(j+1))/\(runC y S false (cs.take (j+1))).1.2=0/\Za (fun k=>k=q∨k=r) w w4 from by
       rw[hR]
       exact⟨h4.more (by omega),m4.more (by omega),rfl,HT.out.1.trans t4⟩)
      have HW:=hid (show(runC y S false (cs.take (j+1))).1.1=(bj||r1)from by rw[hR]);clear hR h4 m4 tw4 t4 hT HOK HBAD HT;cases bj with
      | true=>
       rw[Bool.true_or]at HW;go_wp2_with fail;go_roundw
       case rel=>exact⟨j+1,by omega,by go_num,by rw[HW.out],HJ⟩
       case measure=>simp[intOf];omega
      | false=>
       rw[Bool.false_or]at HW;go_wp2_with fail;go_roundw
       case rel=>exact⟨j+1,by omega,by go_num,by rw[HW.out],HJ⟩
       case measure=>simp[intOf];omega
    · have k1:(r2 != 0)=true:=by simp[hr2]
      have hR:=HBAD.out hr2
      have HE:=hid (show Zhu w w4 X x p q r a (N+8*n) S (runC y S false cs) (.returned (.tuple #[.bool false,.int .i64 r2]))from by
       rw[hR]
       exact⟨false,T,rfl,fun h=>absurd h hr2,h4.more (by omega),m4.more (by omega),tw4.trans HT.out.2,HT.out.1.trans t4⟩)
      clear hR h4 m4 tw4 t4 hT HOK HBAD HT hr2;go_wp2_with fail;go_ret2;exact HE.out
  · obtain rfl:j=n:=by omega
    have htk:cs.take j=cs:=List.take_of_length_le (by rw[HCS.out,List.length_map,HLEN.out.1];exact Nat.le_refl _);obtain⟨hrs,hms,hz,ht⟩:=HJ.out;rw[htk]at hrs hms hz ⊢
    have HE:=hid (show Zhu w wr X x p q r a (N+8*j) S (runC y S false cs) (.returned (.tuple #[.bool (runC y S false cs).1.1,.int .i64 0]))from
     ⟨_,_,by rw[hz],fun _=>⟨rfl,rfl⟩,hrs,hms,Zgx y cs S false,ht⟩)
    clear hrs hms hz ht htk HJ;obtain⟨bw,hbw⟩:∃bw,bw=(runC y S false cs).1.1:=⟨_,rfl⟩
    rw[<-hbw]at HE ⊢;clear hbw;go_wp2_with fail;go_ret2;exact HE.out
end
end Go.Proofs.YtiknkbpojmgbhaaGreat
