/- ExwV, Few12, EqF, ExuO, ExuP, DiskDevB. Conditions: in each theorem. -/
import Derived.Test.YtlmkdmdbpopnhaaGreatDoorG47
import Derived.Test.YtlmkdmdbpopnhaaGreatDoorG48
import Derived.Test.YtlmkdmdbpopnhaaGreatDoorG46
import Derived.Test.YtlmkdmdbpopnhaaGreatDoorG45
import Derived.Test.YtlmkdmdbpopnhaaGreatDoorG11
import Derived.Test.YtlmkdmdbpopnhaaGreatDoorG3
import Derived.StillTailTactics
set_option maxHeartbeats 40000000
set_option maxRecDepth 100000
set_option linter.unusedVariables false
open Go.Proofs.Tryz
open Go.Lib (hid)
namespace Go.Proofs.YtlmkdmdbpopnhaaGreatDoor
open Go.RowKit
def Zir(D:World->(Nat->Prop)->Addr->DS->Prop)(B:Nat)(w0:World)(j r x y cap st:Nat)(w:World):Prop:=
 ∃(F O:Nat->Prop) (p:Addr) (S:DS) (q:Nat) (seq:Int) (b:Nat) (L:List (Int×List Int)) (T U:TL),Z9 D B w0 w F O p S q seq r b st x y L T T U cap/\T.length<=j/\U.length<=j/\seq<=(j:Int)+2/\S.writes<=6100*(j+2)
theorem ZlO:∀(T:TL) (k:Txt) (v:List Int),(Zff T k v).length<=T.length+1
 | [],k,v=>ZZe _
 | q::T,k,v=>by
  show(if q.1<k then q::Zff T k v else if q.1=k then(k,v)::T else(k,v)::q::T).length<=_
  have h:=ZlO T k v;split
  · simp only[List.length_cons];omega
  · split
    · simp only[List.length_cons];omega
    · simp only[List.length_cons];omega
section
variable{D:World->(Nat->Prop)->Addr->DS->Prop}{w w':World}{F O:Nat->Prop}{p:Addr}{S:DS}{q r b B:Nat}{seq:Int}{cap:Nat}{f:Nat->List Int}
theorem Z9.lenL{w0:World}{st x y:Nat}{L:List (Int×List Int)}{T V U:TL}(h:Z9 D B w0 w F O p S q seq r b st x y L T V U cap):L.length<=cap:=by
 obtain⟨e,h1,_⟩:=h.now
 have:=Zgn h.top.at_.pg.up h.top.at_.pg.all
 rw[h1.P]at this;omega
theorem ZmZ(api:Zb D){A:Option Addr}{n k:Nat}{ds:List Ziq}(hP:ZaN D w F O p S q seq r b [])(htab:Zdf w F)(hlen:Ziz S)(hout:¬O 1)(hK:Kp S f seq)(hcS:S.P=(cap:Int))(hcap:1300<=cap/\cap<=3000)(hseq:seq<=1)(hwr:S.writes<=100)(hO:∀k,O k->B<=k)(hB:B<=w.heap.size)(hg:1<B)(hr:Zdj w B A n ds)(hn:n<=150) :
 Calls prog 12 #[.pointer (some ⟨r,0,none⟩),.slice A n k,.bool false] w fun e w'=>∃st x y,e=.returned (.tuple #[.pointer (some ⟨st,0,none⟩),.pointer (some ⟨x,0,none⟩),.bool true])/\Zir D B w n r x y cap st w':=by
 obtain⟨hst,hfm⟩:=ZO.format api hP htab hlen hout hK hcS (by omega);have HF:=hid hfm;have HR:=hid hr
 have HW:=hid (show ∀st w1,Zad D w F O p S q seq r b st (awL 0 []) w1->Calls prog 44 #[.pointer (some ⟨r,0,none⟩)] w1 fun z w2=>z=.returned (.int .i64 0)/\∃F2 O2 S2 seq2,Top D w2 F2 O2 p S2 q seq2 r b st []/\ZO S2 [] [] cap/\(∃f,Kp S2 f seq2)/\seq2<=2/\S2.writes<=200/\(∀k,O2 k->B<=k)/\RowKit.Below B w w2/\B<=w2.heap.size from fun st w1 ht=>by
  obtain⟨O1,t1,t2,t3⟩:=ht
  have hO1:∀k,O1 k->B<=k:=fun k hk=>by
   rcases t3 k hk with c|c
   · exact hO k c
   · omega
  have hb1:RowKit.Below B w w1:=Zf.below t2 hO hB;refine(ZmY api t1 hst ⟨f,hK⟩ (by omega) (by omega)).mono ?_;rintro z w2⟨z1,F2,O2,S2,seq2,z2,z3,z4,z5,z6,z7,z8⟩;have hL:(awL 0 []).length=3:=rfl;refine⟨z1,F2,O2,S2,seq2,z2,z3,z4,by omega,by omega,fun k hk=>?_,hb1.trans (Zf.below z7 hO1 (ZZf hB hb1.size)),ZZf hB (ZZf hb1.size z7.size)⟩;rcases z8 k hk with c|c
  · exact hO1 k c
  · exact ZZf (ZZf hB hb1.size) c)
 clear hP htab hlen hout hr hst hfm hK hcS;go_enter func12,ntmps12;go_wp2_with fail;refine HF.out.mono ?_;rintro e w1⟨st,rfl,hst1,ht⟩;have HC:=hid (HW.out st w1 ht);clear ht HF HW;go_wp2_with fail;refine HC.out.mono ?_;rintro e w2⟨rfl,F2,O2,S2,seq2,z2,z3,z4,z5,z6,z7,z8,z9⟩;have HJ:=hid (show Zir D B w 0 r w2.heap.size (w2.heap.size+1) cap st _ from⟨F2,O2,p,S2,q,seq2,b,[],[],[],Z9.start api z2 z3 z4 z7 z8 z9 hg,ZZe _,ZZe _,by omega,by omega⟩);clear z2 z3 z4 z5 z6 z7 z8 z9 HC;go_wp2_with fail;generalize (w2.alloc (.cells #[.slice none 0 0] 37)).alloc (.cells #[.slice none 0 0] 37)=W at HJ ⊢;generalize w2.heap.size+1=y at HJ ⊢;generalize w2.heap.size=x at HJ ⊢
 go_loopw[9,10,47] (fun sv ev i wr=>∃(j st:Nat),j<=n/\sv=.pointer (some ⟨st,0,none⟩)/\ev=.int .i64 0/\i=.int .i64 j/\Hid (Zir D B w j r x y cap st wr)) (fun _ _ i _=>n-(intOf i).toNat)
 case atStart=>exact⟨0,st,Nat.zero_le _,rfl,rfl,rfl,HJ⟩
 case round=>
  clear HJ;obtain⟨j,st,hj,rfl,rfl,rfl,hM⟩:=hrel;have hbw:RowKit.Below B w wr:=by obtain⟨_,_,_,_,_,_,_,_,_,_,h,_⟩:=hM.out;exact h.bel
  by_cases hlt:j<n
  · have hlt':(j:Int)<(n:Int):=by omega
    obtain⟨db,doff,rfl,hdb,hdat⟩:=HR.out.2 (by omega);obtain⟨⟨dop,dk,dv⟩,hd,hdo⟩:=hdat j hlt;obtain⟨ka,kn,kc,va,vn,vc,d0,d1,d2,d3,d4,d5,d6,d7⟩:=hdo.below hdb hbw;dsimp only at d0 d1 d2 d3 d4 d6;obtain⟨F3,O3,p3,S3,q3,seq3,b3,L3,T,U,hE,t1,t2,t3,t4⟩:=hM.out;obtain⟨W1,hW1⟩:∃W1,W1=wr.alloc (.cells #[.int .i64 dop,.slice ka kn kc,.slice va vn vc] 83):=⟨_,rfl⟩
    have hY:RowKit.Below wr.heap.size wr W1:=by rw[hW1];exact(RowKit.Below.refl _ _).alloc (ZZe _) _
    have hYB:W1.heap[wr.heap.size]?=some (.cells #[.int .i64 dop,.slice ka kn kc,.slice va vn vc] 83 (0,0)):=by rw[hW1];exact heap_alloc_new _ _
    have hYlt:wr.heap.size<W1.heap.size:=(ZZa.1 hYB).1;have hOlt:∀k,O3 k->k<wr.heap.size:=fun k hk=>hE.top.at_.pg.lt k hk
    have hbw1:RowKit.Below B wr W1:=hY.mono (ZZf hB hbw.size);have HE:=hid (hE.below api hY);have HK:=hid (d4.below hbw1);have HV:=hid (d6.below hbw1);have HB:=hid (ZZf (ZZf hB hbw.size) hY.size);have y0:W1.cell? ⟨wr.heap.size,0,none⟩=some (.int .i64 dop):=by rw[cell_of_row W1 wr.heap.size 0 _ _ (0,0) hYB];rfl
    have y1:W1.cell? ⟨wr.heap.size,1,none⟩=some (.slice ka kn kc):=by rw[cell_of_row W1 wr.heap.size 1 _ _ (0,0) hYB];rfl
    have y2:W1.cell? ⟨wr.heap.size,2,none⟩=some (.slice va vn vc):=by rw[cell_of_row W1 wr.heap.size 2 _ _ (0,0) hYB];rfl
    clear hd hdo hdat hE hM;by_cases hput:dop=0∨dop=1∨dop=2∨dop=3
    · rcases hput with h4|h4|h4|h4
      all_goals
       as_aux_lemma=>
        subst h4;have HP:=hid (HE.out.put api HK.out HB.out HV.out HB.out d5 d7 (by omega));go_wp2_with fail;rw[<-hW1];refine HP.out.mono ?_;rintro e w3⟨rfl,O4,L4,hE4,hT4,hO4⟩;have hb13:RowKit.Below B W1 w3:=Zf.below hT4 HE.out.own HB.out;have hy4:=hT4.block _ hYlt (fun e=>absurd (hOlt _ e) (Nat.lt_irrefl _));have y1':=(World.cell?_of_block (a:=⟨wr.heap.size,1,none⟩) hy4).trans y1;have y2':=(World.cell?_of_block (a:=⟨wr.heap.size,2,none⟩) hy4).trans y2;have HB3:=hid (ZZf HB.out hb13.size);have HRT:=hid (Zk0 w3 (A:=ka) (A':=va) (k:=kc) (k':=vc) d5.2 d7.2);clear HP;by_cases hright:Zcz kn vn
        · rw[if_pos hright]at hE4 ⊢;have hsm:kn<=32/\vn<=120:=⟨hright.1.2,hright.2⟩
          have hrt:(decide (1<=kn)&&decide (kn<=32)&&decide (vn<=120))=true:=by
           unfold Zcz at hright;simp only[Bool.and_eq_true,decide_eq_true_eq];exact hright
          rw[hrt]at HRT;have HTP:=hid (hE4.tput api (kc:=kc) (vc:=vc) (HK.out.below hb13) HB3.out (HV.out.below hb13) HB3.out (by omega) (by omega) (by omega));clear hE4;go_wp2_with fail;refine HRT.out.mono ?_;rintro e w4⟨rfl,rfl⟩;go_wp2_with fail;refine HTP.out.mono ?_;rintro e w5⟨rfl,hE5,hT5⟩;have hdr:RowKit.Below w5.heap.size w5 w5.drew:=(RowKit.Below.refl _ _).drew;have hE6:=hE5.below api hdr;have HL:=hid (hE6.len api);obtain⟨A5,n5,c5,x5,_,hsp⟩:=hE6.tab;have q0:w5.drew.cell? ⟨x,0,none⟩=some (.slice A5 n5 c5):=by rw[cell_of_row w5.drew x 0 _ _ (0,0) x5];rfl
          have hn5:(Zff T (tx dk) dv).length=n5:=hsp.2.1;have HXB:=hid (show ∀w6,RowKit.Below w5.drew.heap.size w5.drew w6->w6.cell? ⟨x,0,none⟩=some (.slice A5 n5 c5)from fun w6 hb=>(hb.cell (p:=⟨x,0,none⟩) hE6.tab.lt).trans q0);rw[hn5]at HL;have HJ6:=hid (show ∀w6,RowKit.Below w5.drew.heap.size w5.drew w6->Zir D B w (j+1) r x y cap st w6 from fun w6 hb=>⟨_,_,_,_,_,_,_,_,_,_,hE6.below api hb,by have:=ZlO T (tx dk) dv;omega,by omega,by omega,by omega⟩);clear HTP HRT x5 hsp hn5 hE6 hE5 hT5 HE HK HV HB HB3 y0 y1 y2 y1' y2' hy4 hYB;go_wp2_with fail
          go_region_held3 (fun W=>W.cell? ⟨x,0,none⟩=some (.slice A5 n5 c5))
           (first|exact q1|exact q0)
           (first|(go_at_call 43;refine HL.out.mono ?_;rintro e w6 ⟨rfl,hb6⟩;have q1:=HXB.out w6 hb6))
          have HJ7:=hid (HJ6.out w6 hb6);clear HJ6 HL HXB q0 q1 hb6;go_wp2;go_roundw
          case rel=>exact⟨j+1,st,by omega,rfl,rfl,by go_num,HJ7⟩
          case measure=>simp[intOf];omega
        · rw[if_neg hright]at hE4 ⊢
          have hrt:(decide (1<=kn)&&decide (kn<=32)&&decide (vn<=120))=false:=by
           unfold Zcz at hright
           cases hh:(decide (1<=kn)&&decide (kn<=32)&&decide (vn<=120))with
           | false=>rfl
           | true=>
            simp only[Bool.and_eq_true,decide_eq_true_eq]at hh;exact absurd hh hright
          rw[hrt]at HRT;go_wp2_with fail;refine HRT.out.mono ?_;rintro e w4⟨rfl,rfl⟩;have hdr:RowKit.Below w3.heap.size w3 w3.drew:=(RowKit.Below.refl _ _).drew;have hE6:=hE4.below api hdr;have HL:=hid (hE6.len api);obtain⟨A5,n5,c5,x5,_,hsp⟩:=hE6.tab;have q0:w3.drew.cell? ⟨x,0,none⟩=some (.slice A5 n5 c5):=by rw[cell_of_row w3.drew x 0 _ _ (0,0) x5];rfl
          have hn5:(T).length=n5:=hsp.2.1;have HXB:=hid (show ∀w6,RowKit.Below w3.drew.heap.size w3.drew w6->w6.cell? ⟨x,0,none⟩=some (.slice A5 n5 c5)from fun w6 hb=>(hb.cell (p:=⟨x,0,none⟩) hE6.tab.lt).trans q0);rw[hn5]at HL;have HJ6:=hid (show ∀w6,RowKit.Below w3.drew.heap.size w3.drew w6->Zir D B w (j+1) r x y cap st w6 from fun w6 hb=>⟨_,_,_,_,_,_,_,_,_,_,hE6.below api hb,by omega,by omega,by omega,by omega⟩);clear HRT x5 hsp hn5 hE6 hE4 HE HK HV HB HB3 y0 y1 y2 y1' y2' hy4 hYB;go_wp2_with fail
          go_region_held3 (fun W=>W.cell? ⟨x,0,none⟩=some (.slice A5 n5 c5))
           (first|exact q1|exact q0)
           (first|(go_at_call 43;refine HL.out.mono ?_;rintro e w6 ⟨rfl,hb6⟩;have q1:=HXB.out w6 hb6))
          have HJ7:=hid (HJ6.out w6 hb6);clear HJ6 HL HXB q0 q1 hb6;go_wp2;go_roundw
          case rel=>exact⟨j+1,st,by omega,rfl,rfl,by go_num,HJ7⟩
          case measure=>simp[intOf];omega
    by_cases h4:dop=4
    · as_aux_lemma=>
       subst h4;have HP:=hid (HE.out.del api HK.out HB.out d5);go_wp2_with fail;rw[<-hW1];refine HP.out.mono ?_;rintro e w3⟨rfl,O4,L4,hE4,hT4,hO4⟩;have hb13:RowKit.Below B W1 w3:=Zf.below hT4 HE.out.own HB.out;have hy4:=hT4.block _ hYlt (fun e=>absurd (hOlt _ e) (Nat.lt_irrefl _));have y1':=(World.cell?_of_block (a:=⟨wr.heap.size,1,none⟩) hy4).trans y1;have HB3:=hid (ZZf HB.out hb13.size);have HTP:=hid (hE4.tdel api (kc:=kc) (HK.out.below hb13) HB3.out (by omega));clear hE4 HP;go_wp2_with fail;refine HTP.out.mono ?_;rintro e w5⟨rfl,hE5,hT5⟩;generalize (Zak T (tx dk)).isSome=bb;have hbb:(bb == bb)=true:=by simp
       have hdr:RowKit.Below w5.heap.size w5 w5.drew:=(RowKit.Below.refl _ _).drew;have hE6:=hE5.below api hdr;have HL:=hid (hE6.len api);obtain⟨A5,n5,c5,x5,_,hsp⟩:=hE6.tab;have q0:w5.drew.cell? ⟨x,0,none⟩=some (.slice A5 n5 c5):=by rw[cell_of_row w5.drew x 0 _ _ (0,0) x5];rfl
       have hn5:(Zfg T (tx dk)).length=n5:=hsp.2.1;have HXB:=hid (show ∀w6,RowKit.Below w5.drew.heap.size w5.drew w6->w6.cell? ⟨x,0,none⟩=some (.slice A5 n5 c5)from fun w6 hb=>(hb.cell (p:=⟨x,0,none⟩) hE6.tab.lt).trans q0);rw[hn5]at HL;have HJ6:=hid (show ∀w6,RowKit.Below w5.drew.heap.size w5.drew w6->Zir D B w (j+1) r x y cap st w6 from fun w6 hb=>⟨_,_,_,_,_,_,_,_,_,_,hE6.below api hb,by have:=ZlF T (tx dk);omega,by omega,by omega,by omega⟩);clear HTP x5 hsp hn5 hE6 hE5 hT5 HE HK HV HB HB3 y0 y1 y2 y1' hy4 hYB;go_wp2_with fail
       go_region_held3 (fun W=>W.cell? ⟨x,0,none⟩=some (.slice A5 n5 c5))
        (first|exact q1|exact q0)
        (first|(go_at_call 43;refine HL.out.mono ?_;rintro e w6 ⟨rfl,hb6⟩;have q1:=HXB.out w6 hb6))
       have HJ7:=hid (HJ6.out w6 hb6);clear HJ6 HL HXB q0 q1 hb6;go_wp2;go_roundw
       case rel=>exact⟨j+1,st,by omega,rfl,rfl,by go_num,HJ7⟩
       case measure=>simp[intOf];omega
    by_cases h5:dop=5
    · as_aux_lemma=>
       subst h5;have HP:=hid (HE.out.get api (kc:=kc) HK.out HB.out d5.2);go_wp2_with fail;rw[<-hW1];refine HP.out.mono ?_;rintro e w3⟨A3,n3,c3,rfl,hc3,hm3,hr3,hb3⟩;have hE4:=HE.out.below api hb3;have y1':=(hb3.cell (p:=⟨wr.heap.size,1,none⟩) hYlt).trans y1;have HB3:=hid (ZZf HB.out hb3.size);have HTP:=hid (hE4.tget (kc:=kc) ((HK.out.below (hb3.mono HB.out))) HB3.out (by omega));have HR3:=hid hr3;have HE4:=hid hE4;clear hE4 HP hr3;go_wp2_with fail;refine HTP.out.mono ?_;rintro e w5⟨u5,rfl,hu5,hb5⟩;obtain⟨A4,n4,c4,rfl,_,_,hr4,_⟩:=hu5;have HEQ:=ZdI c3 c4 (HR3.out.below hb5) hr4;rw[decide_eq_true rfl]at HEQ;have HEQ:=hid HEQ;have hE5:=HE4.out.below api hb5;generalize (Zak T (tx dk)).isSome=bb;have hbb:(bb == bb)=true:=by simp
       clear hr4 hb5 HE4 HR3 HTP;have HE5:=hid hE5;clear hE5;go_wp2_with fail;refine HEQ.out.mono ?_;rintro e w5⟨rfl,rfl⟩;have hE5:=HE5.out;have hdr:RowKit.Below w5.heap.size w5 w5.drew:=(RowKit.Below.refl _ _).drew;have hE6:=hE5.below api hdr;have HL:=hid (hE6.len api);obtain⟨A5,n5,c5,x5,_,hsp⟩:=hE6.tab;have q0:w5.drew.cell? ⟨x,0,none⟩=some (.slice A5 n5 c5):=by rw[cell_of_row w5.drew x 0 _ _ (0,0) x5];rfl
       have hn5:(T).length=n5:=hsp.2.1;have HXB:=hid (show ∀w6,RowKit.Below w5.drew.heap.size w5.drew w6->w6.cell? ⟨x,0,none⟩=some (.slice A5 n5 c5)from fun w6 hb=>(hb.cell (p:=⟨x,0,none⟩) hE6.tab.lt).trans q0);rw[hn5]at HL;have HJ6:=hid (show ∀w6,RowKit.Below w5.drew.heap.size w5.drew w6->Zir D B w (j+1) r x y cap st w6 from fun w6 hb=>⟨_,_,_,_,_,_,_,_,_,_,hE6.below api hb,by omega,by omega,by omega,by omega⟩);clear x5 hsp hn5 hE6 hE5 HE5 HEQ HE HK HV HB HB3 y0 y1 y2 y1' hYB hb3;go_wp2_with fail
       go_region_held3 (fun W=>W.cell? ⟨x,0,none⟩=some (.slice A5 n5 c5))
        (first|exact q1|exact q0)
        (first|(go_at_call 43;refine HL.out.mono ?_;rintro e w6 ⟨rfl,hb6⟩;have q1:=HXB.out w6 hb6))
       have HJ7:=hid (HJ6.out w6 hb6);clear HJ6 HL HXB q0 q1 hb6;go_wp2;go_roundw
       case rel=>exact⟨j+1,st,by omega,rfl,rfl,by go_num,HJ7⟩
       case measure=>simp[intOf];omega
    by_cases h6:dop=6
    · as_aux_lemma=>
       subst h6;have HP:=hid (HE.out.commitP api (by omega) (by omega));have hLl:=HE.out.lenL;go_wp2_with fail;rw[<-hW1];refine HP.out.mono ?_;rintro e w3⟨rfl,F4,O4,S4,seq4,hP4,hs4,hw4⟩;obtain⟨A5,n5,c5,x5,_,hsp⟩:=hP4.tab;obtain⟨A6,n6,c6,x6,_,_⟩:=hP4.tabs;have q0:w3.cell? ⟨x,0,none⟩=some (.slice A5 n5 c5):=by rw[cell_of_row w3 x 0 _ _ (0,0) x5];rfl
       have qy:w3.cell? ⟨y,0,none⟩=some (.slice A6 n6 c6):=by rw[cell_of_row w3 y 0 _ _ (0,0) x6];rfl
       have fr:w3.frozen? ⟨y,0,none⟩=false:=frozen_of_row w3 y 0 _ _ x6;have hPY:=hP4.setY api x5 hsp;have HO:=hid (hPY.open_ api);clear hPY hP4 HP x5 x6 hsp;go_wp2_with fail;refine HO.out.mono ?_;rintro e w5⟨st5,rfl,hE5⟩;clear q0 qy fr;have hdr:RowKit.Below w5.heap.size w5 w5.drew:=(RowKit.Below.refl _ _).drew;have hE6:=hE5.below api hdr;have HL:=hid (hE6.len api);obtain⟨A5,n5,c5,x5,_,hsp⟩:=hE6.tab;have q0:w5.drew.cell? ⟨x,0,none⟩=some (.slice A5 n5 c5):=by rw[cell_of_row w5.drew x 0 _ _ (0,0) x5];rfl
       have hn5:(T).length=n5:=hsp.2.1;have HXB:=hid (show ∀w6,RowKit.Below w5.drew.heap.size w5.drew w6->w6.cell? ⟨x,0,none⟩=some (.slice A5 n5 c5)from fun w6 hb=>(hb.cell (p:=⟨x,0,none⟩) hE6.tab.lt).trans q0);rw[hn5]at HL;have HJ6:=hid (show ∀w6,RowKit.Below w5.drew.heap.size w5.drew w6->Zir D B w (j+1) r x y cap st5 w6 from fun w6 hb=>⟨_,_,_,_,_,_,_,_,_,_,hE6.below api hb,by omega,by omega,by omega,by omega⟩);clear x5 hsp hn5 hE6 hE5 HO HE HK HV HB y0 y1 y2 hYB;go_wp2_with fail
       go_region_held3 (fun W=>W.cell? ⟨x,0,none⟩=some (.slice A5 n5 c5))
        (first|exact q1|exact q0)
        (first|(go_at_call 43;refine HL.out.mono ?_;rintro e w6 ⟨rfl,hb6⟩;have q1:=HXB.out w6 hb6))
       have HJ7:=hid (HJ6.out w6 hb6);clear HJ6 HL HXB q0 q1 hb6;go_wp2;go_roundw
       case rel=>exact⟨j+1,st5,by omega,rfl,rfl,by go_num,HJ7⟩
       case measure=>simp[intOf];omega
    by_cases h7:dop≠0/\dop≠1/\dop≠2/\dop≠3/\dop≠4/\dop≠5/\dop≠6
    · as_aux_lemma=>
       have k0:(dop == 0)=false:=by simp[h7.1]
       have k1:(dop == 1)=false:=by simp[h7.2.1]
       have k2:(dop == 2)=false:=by simp[h7.2.2.1]
       have k3:(dop == 3)=false:=by simp[h7.2.2.2.1]
       have k4:(dop == 4)=false:=by simp[h7.2.2.2.2.1]
       have k5:(dop == 5)=false:=by simp[h7.2.2.2.2.2.1]
       have k6:(dop == 6)=false:=by simp[h7.2.2.2.2.2.2]
       clear h7;have HP:=hid (HE.out.abortP api);go_wp2_with fail;rw[<-hW1];refine HP.out.mono ?_;rintro e w3⟨rfl,hP4⟩;obtain⟨A5,n5,c5,x5,_,_⟩:=hP4.tab;obtain⟨A6,n6,c6,x6,_,hsp⟩:=hP4.tabs;have q0:w3.cell? ⟨x,0,none⟩=some (.slice A5 n5 c5):=by rw[cell_of_row w3 x 0 _ _ (0,0) x5];rfl
       have qy:w3.cell? ⟨y,0,none⟩=some (.slice A6 n6 c6):=by rw[cell_of_row w3 y 0 _ _ (0,0) x6];rfl
       have fr:w3.frozen? ⟨x,0,none⟩=false:=frozen_of_row w3 x 0 _ _ x5;have hPX:=hP4.setX api x6 hsp;have HO:=hid (hPX.open_ api);clear hPX hP4 HP x5 x6 hsp;go_wp2_with fail;refine HO.out.mono ?_;rintro e w5⟨st5,rfl,hE5⟩;clear q0 qy fr;have hdr:RowKit.Below w5.heap.size w5 w5.drew:=(RowKit.Below.refl _ _).drew;have hE6:=hE5.below api hdr;have HL:=hid (hE6.len api);obtain⟨A5,n5,c5,x5,_,hsp⟩:=hE6.tab;have q0:w5.drew.cell? ⟨x,0,none⟩=some (.slice A5 n5 c5):=by rw[cell_of_row w5.drew x 0 _ _ (0,0) x5];rfl
       have hn5:(U).length=n5:=hsp.2.1;have HXB:=hid (show ∀w6,RowKit.Below w5.drew.heap.size w5.drew w6->w6.cell? ⟨x,0,none⟩=some (.slice A5 n5 c5)from fun w6 hb=>(hb.cell (p:=⟨x,0,none⟩) hE6.tab.lt).trans q0);rw[hn5]at HL;have HJ6:=hid (show ∀w6,RowKit.Below w5.drew.heap.size w5.drew w6->Zir D B w (j+1) r x y cap st5 w6 from fun w6 hb=>⟨_,_,_,_,_,_,_,_,_,_,hE6.below api hb,by omega,by omega,by omega,by omega⟩);clear x5 hsp hn5 hE6 hE5 HO HE HK HV HB y0 y1 y2 hYB k0 k1 k2 k3 k4 k5 k6;go_wp2_with fail
       go_region_held3 (fun W=>W.cell? ⟨x,0,none⟩=some (.slice A5 n5 c5))
        (first|exact q1|exact q0)
        (first|(go_at_call 43;refine HL.out.mono ?_;rintro e w6 ⟨rfl,hb6⟩;have q1:=HXB.out w6 hb6))
       have HJ7:=hid (HJ6.out w6 hb6);clear HJ6 HL HXB q0 q1 hb6;go_wp2;go_roundw
       case rel=>exact⟨j+1,st5,by omega,rfl,rfl,by go_num,HJ7⟩
       case measure=>simp[intOf];omega
    · exfalso;omega
  · have hlt':¬(j:Int)<(n:Int):=by omega
    go_wp2_with fail
    go_ret3
    have hjn:j=n:=by omega
    subst hjn;exact⟨st,x,rfl,y,hM.out⟩
end
def Zci(x:Ziq):Bool:=decide (60<x.key.length)||decide (200<x.val.length)
theorem Zm0{w:World}{B kn kc vn vc:Nat}{ka va:Option Addr}{x:Ziq}(hk:RB w B ka kn x.key)(hv:RB w B va vn x.val)(hkm:kn<=maxLen)(hvm:vn<=maxLen) :
 Calls prog 38 #[.agg #[.int .i64 x.op,.slice ka kn kc,.slice va vn vc]] w fun e w'=>e=.returned (.bool (Zci x))/\Below w.heap.size w w':=by
 unfold maxLen at hkm hvm;have q0:(w.alloc (.cells #[.int .i64 x.op,.slice ka kn kc,.slice va vn vc] 83 (0,0))).cell? ⟨w.heap.size,1,none⟩=some (.slice ka kn kc):=cell_of_row _ _ 1 _ _ (0,0) (heap_alloc_new w _);have q1:(w.alloc (.cells #[.int .i64 x.op,.slice ka kn kc,.slice va vn vc] 83 (0,0))).cell? ⟨w.heap.size,2,none⟩=some (.slice va vn vc):=cell_of_row _ _ 2 _ _ (0,0) (heap_alloc_new w _);have HX:=hid (show Below w.heap.size w (w.alloc (.cells #[.int .i64 x.op,.slice ka kn kc,.slice va vn vc] 83 (0,0)))from(Below.refl _ _).alloc (ZZe _) _);have hs:Zci x=(decide (60<kn)||decide (200<vn)):=by unfold Zci;rw[hk.len,hv.len]
 rw[hs];clear hs hk hv;by_cases h1:60<kn
 · have k1:decide ((kn:Int)>60)=true:=by simp;omega
   rw[decide_eq_true h1];clear h1;go_enter func38,ntmps38;go_wp2;go_ret;exact⟨rfl,HX.out⟩
 · have k1:decide ((kn:Int)>60)=false:=by simp;omega
   rw[decide_eq_false h1];by_cases h2:200<vn
   · have k2:decide ((vn:Int)>200)=true:=by simp;omega
     rw[decide_eq_true h2];clear h1 h2;go_enter func38,ntmps38;go_wp2;go_ret;exact⟨rfl,HX.out⟩
   · have k2:decide ((vn:Int)>200)=false:=by simp;omega
     rw[decide_eq_false h2];clear h1 h2;go_enter func38,ntmps38;go_wp2;go_ret;exact⟨rfl,HX.out⟩
theorem Zm1{w:World}{B n:Nat}{A:Option Addr}{ps:List Ziq}(c:Nat)(hr:Zdj w B A n ps)(hm:n<=maxLen)(hB:B<=w.heap.size) :
 Calls prog 90 #[.slice A n c,.func (.func 38) #[] #[]] w fun e w'=>∃i:Int,e=.returned (.int .i64 i)/\decide (0<=i)=ps.any Zci/\Below w.heap.size w w':=by
 unfold maxLen at hm;have HR:=hid hr;clear hr;go_enter func90,ntmps90;go_wp2_with fail
 go_loopw[8] (fun i wr=>∃j:Nat,j<=n/\i=.int .i64 j/\Hid (∀(m:Nat) (y:Ziq),m<j->ps[m]?=some y->Zci y=false)/\Hid (Below w.heap.size w wr)) (fun i _=>n-(intOf i).toNat)
 case atStart=>exact⟨0,Nat.zero_le _,rfl,hid (fun m y hm=>absurd hm (by omega)),hid (Below.refl _ _)⟩
 case round=>
  obtain⟨j,hj,rfl,hbef,hbw⟩:=hrel;by_cases hlt:j<n
  · obtain⟨b,off,rfl,hb,hat⟩:=HR.out.2 (by omega);obtain⟨y,hy,hd⟩:=hat j hlt;obtain⟨ka,kn,kc,va,vn,vc,h0,h1,h1b,_,h2,⟨h3a,h3b⟩,h4,⟨h5a,h5b⟩⟩:=hd.below hb (hbw.out.mono hB);have HF:=hid (Zm0 (kc:=kc) (vc:=vc) h2 h4 h3b h5b);have HY:=hid hy;clear hat hy hd h2 h4;have hlt':(j:Int)<(n:Int):=by omega
    cases hk:Zci y
    · rw[hk]at HF
      have hn:=hid (fun(m:Nat) (z:Ziq) (hm:m<j+1)=>show ps[m]?=some z->Zci z=false by
       intro hz;rcases Nat.lt_or_ge m j with h|h
       · exact hbef.out m z h hz
       · obtain rfl:m=j:=by omega
         rw[HY.out]at hz;cases hz
         exact hk)
      clear hk;go_wp2_with fail;refine HF.out.mono ?_;rintro e w'⟨rfl,hb'⟩;have HE:=hid (hbw.out.trans (hb'.mono hbw.out.size));clear hb' h0 h1 h1b;go_wp2;go_roundw
      case rel=>exact⟨j+1,by omega,by go_num,hn,HE⟩
      case measure=>simp[intOf];omega
    · rw[hk]at HF;have HEX:=hid (show ps.any Zci=true from List.any_eq_true.2 ⟨y,List.mem_of_getElem? HY.out,hk⟩);clear hk;go_wp2_with fail;refine HF.out.mono ?_;rintro e w'⟨rfl,hb'⟩;have HE:=hid (hbw.out.trans (hb'.mono hbw.out.size));clear hb' h0 h1 h1b;go_wp2;go_ret;exact⟨_,rfl,by rw[HEX.out];exact decide_eq_true (by omega),HE.out⟩
  · obtain rfl:j=n:=by omega
    have HEX:=hid (show ps.any Zci=false from List.any_eq_false.2 (fun y hy=>by
     obtain⟨k,hk,rfl⟩:=List.getElem_of_mem hy;rw[hbef.out k _ (by rw[HR.out.1]at hk;exact hk) (ZZc hk)]
     decide))
    go_wp2;go_ret;exact⟨_,rfl,by rw[HEX.out];decide,hbw.out⟩
def Zq7(ps:List Ziq):Bool:=decide (ps.length<=150) && !(ps.any Zci)
theorem ZqV{ps:List Ziq}(h:Zq7 ps=true):ps.length<=150/\∀x∈ps,x.key.length<=60/\x.val.length<=200:=by
 unfold Zq7 at h;simp only[Bool.and_eq_true,decide_eq_true_eq,Bool.not_eq_true']at h;refine⟨h.1,fun x hx=>?_⟩
 have:=List.any_eq_false.1 h.2 x hx
 unfold Zci at this;simp only[Bool.or_eq_true,decide_eq_true_eq,not_or]at this;omega
theorem ZoJ{w:World}{B n:Nat}{A:Option Addr}{ps:List Ziq}(c:Nat)(hr:Zdj w B A n ps)(hm:n<=maxLen)(hB:B<=w.heap.size) :
 Calls prog 10 #[.slice A n c] w fun e w'=>e=.returned (.bool (Zq7 ps))/\Below w.heap.size w w':=by
 have hI:=hid (Zm1 c hr hm hB)
 have HC:Hid (Calls prog 37 #[.slice A n c,.func (.func 38) #[] #[]] w fun e w'=>e=.returned (.bool (ps.any Zci))/\Below w.heap.size w w'):=hid (by
  generalize ps.any Zci=bb at hI ⊢;clear hr;go_enter func37,ntmps37;go_wp2_with fail;refine hI.out.mono ?_;rintro e w'⟨i,rfl,hi,hb⟩;have HI:=hid hi;clear hi;go_wp2;go_ret;rw[<-HI.out]
  exact⟨rfl,hb⟩)
 have hs:Zq7 ps=(decide (n<=150) && !(ps.any Zci)):=by unfold Zq7;rw[hr.1]
 rw[hs];clear hs hr hI;unfold maxLen at hm;generalize ps.any Zci=bb at HC ⊢;by_cases h:n<=150
 · have k0:(n:Int)<=150:=by omega
   rw[decide_eq_true h];go_enter func10,ntmps10;go_wp2_with fail;refine HC.out.mono ?_;rintro e w'⟨rfl,hb⟩;go_wp2;go_ret;exact⟨by simp,hb⟩
 · have k0:¬(n:Int)<=150:=by omega
   rw[decide_eq_false h];go_enter func10,ntmps10;go_wp2;go_ret;exact⟨rfl,Below.refl _ _⟩
end Go.Proofs.YtlmkdmdbpopnhaaGreatDoor
namespace Go.Proofs.YtlmkdmdbpopnhaaGreatDoor
open Go.RowKit Go.Maps
section
variable{w w':World}
theorem Zm2{B B':Nat}{A1 A2 B1 B2:Option Addr}{n1 k1 n2 k2 m1 l1 m2 l2:Nat}{x1 x2 y1 y2:List Int}(hx1:RB w B A1 n1 x1)(hx2:RB w B A2 n2 x2)(hy1:RB w B' B1 m1 y1)(hy2:RB w B' B2 m2 y2)(hB:B<=w.heap.size)(hB':B'<=w.heap.size) :
 Calls prog 57 #[.agg #[.slice A1 n1 k1,.slice A2 n2 k2],.agg #[.slice B1 m1 l1,.slice B2 m2 l2]] w fun e w'=>e=.returned (.bool (decide ((x1,x2)=(y1,y2))))/\RowKit.Below w.heap.size w w':=by
 have hb1:RowKit.Below w.heap.size w (w.alloc (.cells #[.slice A1 n1 k1,.slice A2 n2 k2] 65 (0,0))):=(RowKit.Below.refl _ _).alloc (ZZe _) _;have hb2:RowKit.Below w.heap.size w ((w.alloc (.cells #[.slice A1 n1 k1,.slice A2 n2 k2] 65 (0,0))).alloc (.cells #[.slice B1 m1 l1,.slice B2 m2 l2] 65 (0,0))):=hb1.alloc hb1.size _;have HE1:=hid (ZdI k1 l1 (hx1.below (hb2.mono hB)) (hy1.below (hb2.mono hB')));have HE2:=hid (ZdI k2 l2 (hx2.below (hb2.mono hB)) (hy2.below (hb2.mono hB')));have HB:=hid hb2;have hd:decide ((x1,x2)=(y1,y2))=(decide (x1=y1)&&decide (x2=y2)):=by rw[Bool.eq_iff_iff];simp
 rw[hd];clear hd hx1 hx2 hy1 hy2 hb1 hb2
 cases hq:decide (x1=y1)with
 | true=>
  rw[hq]at HE1;generalize decide (x2=y2)=r at HE2 ⊢;rw[Bool.true_and];clear hq;go_enter func57,ntmps57;go_wp2_with fail;refine HE1.out.mono ?_;rintro e w'⟨rfl,rfl⟩;go_wp2_with fail;refine HE2.out.mono ?_;rintro e w'⟨rfl,rfl⟩;go_wp2;go_ret;exact⟨rfl,HB.out⟩
 | false=>
  rw[hq]at HE1;rw[Bool.false_and];clear hq;go_enter func57,ntmps57;go_wp2_with fail;refine HE1.out.mono ?_;rintro e w'⟨rfl,rfl⟩;go_wp2;go_ret;exact⟨rfl,HB.out⟩
theorem ZjO{α:Type}{l m:List α}(hl:l.length=m.length)(h:∀(a:Nat) (x y:α),l[a]?=some x->m[a]?=some y->x=y):l=m:=by
 apply List.ext_getElem hl;intro a h1 h2;exact h a _ _ (ZZc h1) (ZZc h2)
theorem Zk3{B B':Nat}{A A':Option Addr}{n k n' k':Nat}{ps qs:List KV}(hp:Zaa w B A n ps)(hq:Zaa w B' A' n' qs)(hB:B<=w.heap.size)(hB':B'<=w.heap.size)(hn:n<=maxLen)(hn':n'<=maxLen) :
 Calls prog 56 #[.slice A n k,.slice A' n' k',.func (.func 57) #[] #[]] w fun e w'=>e=.returned (.bool (decide (ps=qs)))/\RowKit.Below w.heap.size w w':=by
 unfold maxLen at hn hn';by_cases hne:n=n'
 · subst hne;have HP:=hid hp;have HQ:=hid hq;clear hp hq;go_enter func56,ntmps56;go_wp2_with fail
   go_loopw[17] (fun i wr=>∃j:Nat,j<=n/\i=.int .i64 j/\Hid ((∀(a:Nat) (x y:KV),a<j->ps[a]?=some x->qs[a]?=some y->x=y)/\RowKit.Below w.heap.size w wr)) (fun i _=>n-(intOf i).toNat)
   case atStart=>exact⟨0,Nat.zero_le _,rfl,hid ⟨fun a x y h=>absurd h (Nat.not_lt_zero _),RowKit.Below.refl _ _⟩⟩
   case round=>
    obtain⟨j,hj,rfl,HM⟩:=hrel;obtain⟨hall,hb⟩:=HM.out;by_cases hlt:j<n
    · obtain⟨b,off,rfl,hbB,hat⟩:=(HP.out.below (hb.mono hB)).2 (by omega);obtain⟨b',off',rfl,hbB',hat'⟩:=(HQ.out.below (hb.mono hB')).2 (by omega);obtain⟨x,hx⟩:∃x,ps[j]?=some x:=⟨_,ZZc (by rw[HP.out.len];exact hlt)⟩
      obtain⟨y,hy⟩:∃y,qs[j]?=some y:=⟨_,ZZc (by rw[HQ.out.len];exact hlt)⟩
      obtain⟨ka,kn,kc,va,vn,vc,c0,c1,r1,_,r2,_⟩:=hat j x hx;obtain⟨la,ln,lc,ua,un,uc,d0,d1,s1,_,s2,_⟩:=hat' j y hy;obtain⟨w2,hw2⟩:∃w2,w2=(wr.alloc (.cells #[.slice ka kn kc,.slice va vn vc] 65 (0,0))).alloc (.cells #[.slice la ln lc,.slice ua un uc] 65 (0,0)):=⟨_,rfl⟩
      have hb1:RowKit.Below wr.heap.size wr (wr.alloc (.cells #[.slice ka kn kc,.slice va vn vc] 65 (0,0))):=(RowKit.Below.refl _ _).alloc (ZZe _) _;have hb2:RowKit.Below wr.heap.size wr w2:=by rw[hw2];exact hb1.alloc hb1.size _
      have hBr:B<=wr.heap.size:=ZZf hB hb.size;have hBr':B'<=wr.heap.size:=ZZf hB' hb.size;have HC:=hid (Zm2 (k1:=kc) (k2:=vc) (l1:=lc) (l2:=uc) (r1.below (hb2.mono hBr)) (r2.below (hb2.mono hBr)) (s1.below (hb2.mono hBr')) (s2.below (hb2.mono hBr')) (ZZf hBr hb2.size) (ZZf hBr' hb2.size));have HX:=hid (ZZg hx (ZZg hy (ZZg hall (hb.trans (hb2.mono hb.size)))));have hj64:(j:Int)<(n:Int):=by omega
      have d0':(wr.alloc (.cells #[.slice ka kn kc,.slice va vn vc] 65 (0,0))).cell? ⟨b',off'+j*2,none⟩=some (.slice la ln lc):=(hb1.cell (p:=⟨b',off'+j*2,none⟩) (ZZd hbB' hBr')).trans d0;have d1':(wr.alloc (.cells #[.slice ka kn kc,.slice va vn vc] 65 (0,0))).cell? ⟨b',off'+j*2+1,none⟩=some (.slice ua un uc):=(hb1.cell (p:=⟨b',off'+j*2+1,none⟩) (ZZd hbB' hBr')).trans d1;by_cases he:x=y
      · have hd:decide ((x.1,x.2)=(y.1,y.2))=true:=decide_eq_true (show x=y from he);rw[hd]at HC;have HE:=hid he;clear hx hy hall hb hb1 hb2 hat hat' r1 r2 s1 s2 he hd;go_wp2_with fail;rw[<-hw2];clear hw2;refine HC.out.mono ?_;rintro e w3⟨rfl,hb3⟩
        have HN:=hid (show(∀(a:Nat) (x y:KV),a<j+1->ps[a]?=some x->qs[a]?=some y->x=y)/\RowKit.Below w.heap.size w w3 from by
         obtain⟨x1,x2,x3,x4⟩:=HX.out;refine⟨fun a x' y' ha hx' hy'=>?_,x4.trans (hb3.mono x4.size)⟩;by_cases e:a=j
         · rw[e,x1]at hx';rw[e,x2]at hy';cases hx';cases hy';exact HE.out
         · exact x3 a x' y' (by omega) hx' hy')
        clear hb3;go_wp2;go_roundw
        case rel=>exact⟨j+1,by omega,by go_num,HN⟩
        case measure=>simp[intOf];omega
      · have hd:decide ((x.1,x.2)=(y.1,y.2))=false:=decide_eq_false (fun e=>he (show x=y from e));rw[hd]at HC;have hne:ps≠qs:=fun e=>he (by rw[e,hy]at hx;exact(Option.some.inj hx).symm)
        have HD:=hid (show decide (ps=qs)=false by simpa using hne);clear hx hy hall hb hb1 hb2 hat hat' r1 r2 s1 s2 he hd hne;go_wp2_with fail;rw[<-hw2];clear hw2;refine HC.out.mono ?_;rintro e w3⟨rfl,hb3⟩;have HB3:=hid hb3;clear hb3;go_wp2;go_ret;rw[HD.out];obtain⟨_,_,_,x4⟩:=HX.out;exact⟨rfl,x4.trans (HB3.out.mono x4.size)⟩
    · obtain rfl:j=n:=by omega
      have he:ps=qs:=ZjO (by rw[HP.out.len,HQ.out.len]) (fun a x y hx hy=>hall a x y (by have:=(ZZb.1 hx).1;have:=HP.out.len;omega) hx hy);have HD:=hid (show decide (ps=qs)=true by simpa using he);have HB:=hid hb;clear hall hb he;go_wp2;go_ret;rw[HD.out];exact⟨rfl,HB.out⟩
 · have hd:decide (ps=qs)=false:=by
    have:ps≠qs:=fun e=>hne (by rw[<-hp.len,<-hq.len,e])
    simpa using this
   rw[hd];have t1:(n == n')=false:=by simpa using hne
   clear hp hq hd;go_enter func56,ntmps56;go_wp2
   · go_ret;exact⟨rfl,RowKit.Below.refl _ _⟩
theorem Zk4{B B':Nat}{A A':Option Addr}{n k n' k':Nat}{ps qs:List KV}(hp:Zaa w B A n ps)(hq:Zaa w B' A' n' qs)(hB:B<=w.heap.size)(hB':B'<=w.heap.size)(hn:n<=maxLen)(hn':n'<=maxLen) :
 Calls prog 14 #[.slice A n k,.slice A' n' k'] w fun e w'=>e=.returned (.bool (decide (ps=qs)))/\RowKit.Below w.heap.size w w':=by
 have HE:=hid (Zk3 (k:=k) (k':=k') hp hq hB hB' hn hn');generalize decide (ps=qs)=r at HE ⊢;clear hp hq;go_enter func14,ntmps14;go_wp2_with fail;refine HE.out.mono ?_;rintro e w'⟨rfl,hb⟩;have HB:=hid hb;clear hb;go_wp2;go_ret;exact⟨rfl,HB.out⟩
end
end Go.Proofs.YtlmkdmdbpopnhaaGreatDoor
namespace Go.Proofs.YtlmkdmdbpopnhaaGreatDoor
open Go.RowKit
theorem RB.touched{w w':World}{O:Nat->Prop}{A:Option Addr}{n:Nat}{l:List Int}(h:RB w w.heap.size A n l)(t:Zf O w w')(ho:∀a,A=some a->0<n->¬O a.block):RB w' w'.heap.size A n l:=⟨h.1,h.2.1,fun hn=>by
 obtain⟨b,off,e,hb,hc⟩:=h.2.2 hn
 exact⟨b,off,e,ZZd hb t.size,fun j hj=>(World.cell?_of_block (a:=⟨b,off+j,none⟩) (t.block b hb (ho _ e hn))).trans (hc j hj)⟩⟩
def Zm3(x:Int):Obj:=.cells #[.int .u8 x] 5 (1,2)
theorem ZeN(w:World)(x:Int)(hx:0<=x/\x<256):RB (w.alloc (Zm3 x)) (w.heap.size+1) (some ⟨w.heap.size,0,none⟩) 1 [x]:=RB.mark w 5 [x] #[.int .u8 x] (1,2) rfl (fun y hy=>by obtain rfl:=List.mem_singleton.1 hy;exact hx)
theorem ZcR(w:World)(x:Int):Below w.heap.size w (w.alloc (Zm3 x)):=(Below.refl _ _).alloc (ZZe _) _
section
variable{D:World->(Nat->Prop)->Addr->DS->Prop}{w0 w w':World}{F:Nat->Prop}{p:Addr}{S:DS}{q r b st:Nat}{seq:Int}
theorem Zry(api:Zb D)(hP:200<=S.P/\S.P<=3000)(hn:200<=pagesOf S.n/\pagesOf S.n<=3000)(h:AwT D w0 w F p S q seq r b st (awL 0 [])){ka va:Option Addr}{B B':Nat}(hk:RB w B ka 1 [97])(hB:B<=w.heap.size)(hv:RB w B' va 1 [120])(hB':B'<=w.heap.size) :
 Calls prog 40 #[.pointer (some ⟨st,0,none⟩),.slice ka 1 1,.slice va 1 1] w fun e w'=>e=.returned (.int .i64 0)/\AwT D w0 w' F p S q seq r b st (awL 1 [kA]):=by
 obtain⟨O,t1,t2,t3⟩:=h;have h1:(0:Int)+1=1:=rfl;have h2:([]:List KV)++[kA] = [kA]:=rfl;have H:=ZjJ (c:=0) (ps:=[]) (x:=kA) (kc:=1) (vc:=1) api hP hn t1 (.inl rfl) Zrn hk hB hv hB' (by decide) (by decide) (by decide) (by decide) (by decide) (by decide) (by decide) (by decide +kernel) (by decide);rw[h1,h2]at H;exact H.mono fun e w' z=>⟨z.1,(AwT.aft t2 t3 z.2).1⟩
theorem Zrz(api:Zb D)(hP:200<=S.P/\S.P<=3000)(hn:200<=pagesOf S.n/\pagesOf S.n<=3000)(h:AwT D w0 w F p S q seq r b st (awL 1 [kA])){ka:Option Addr}{B:Nat}(hk:RB w B ka 1 [98])(hB:B<=w.heap.size) :
 Calls prog 40 #[.pointer (some ⟨st,0,none⟩),.slice ka 1 1,.slice none 0 0] w fun e w'=>e=.returned (.int .i64 0)/\AwT D w0 w' F p S q seq r b st (awL 2 [kA,kB]):=by
 obtain⟨O,t1,t2,t3⟩:=h;have h1:(1:Int)+1=2:=rfl;have h2 : [kA]++[kB] = [kA,kB]:=rfl;have H:=ZjJ (c:=1) (ps:=[kA]) (x:=kB) (kc:=1) (vc:=0) api hP hn t1 (.inr rfl) Zro hk hB (RB.nil_ (w:=w) (B:=0) (A:=none)) (Nat.zero_le _) (by decide) (by decide) (by decide) (by decide) (by decide) (by decide) (by decide) (by decide +kernel) (by decide);rw[h1,h2]at H;exact H.mono fun e w' z=>⟨z.1,(AwT.aft t2 t3 z.2).1⟩
theorem Zrr(api:Zb D)(hP:200<=S.P/\S.P<=3000)(hn:200<=pagesOf S.n/\pagesOf S.n<=3000){O:Nat->Prop}(t1:Top D w F O p S q seq r b st (awL 2 [kA,kB]))(t2:Below w0.heap.size w0 w)(t3:∀k,O k->w0.heap.size<=k){ka A:Option Addr}{B:Nat}(hk:RB w B ka 1 [98])(hB:B<=w.heap.size)(hr:RB w w.heap.size A 1 [120])(ho:∀a,A=some a->0<1->¬O a.block) :
 Calls prog 42 #[.pointer (some ⟨st,0,none⟩),.slice ka 1 1] w fun e w'=>e=.returned (.tuple #[.bool true,.int .i64 0])/\AwT D w0 w' F p S q seq r b st (awL 1 [kA])/\RB w' w'.heap.size A 1 [120]:=by
 have h1:(1:Int)+1=2:=rfl;have h2 : [kA,kB].eraseIdx 1 = [kA]:=rfl;rw[<-h1]at t1;have H:=ZoG (c:=1) (ps:=[kA,kB]) (i:=1) (kc:=1) api hP hn t1 (.inr rfl) Zqh hk hB (by decide) (by decide) (by decide) (by decide) (by decide +kernel) (by decide);rw[h2]at H;exact H.mono fun e w' z=>⟨z.1,(AwT.aft t2 t3 z.2).1,RB.touched hr (AwT.aft t2 t3 z.2).2 ho⟩
theorem ZrA(api:Zb D)(hn:200<=pagesOf S.n/\pagesOf S.n<=3000){O:Nat->Prop}(t1:Top D w F O p S q seq r b st (awL 2 [kA,kB])){ka:Option Addr}{B:Nat}(hk:RB w B ka 1 [97])(hB:B<=w.heap.size) :
 Calls prog 41 #[.pointer (some ⟨st,0,none⟩),.slice ka 1 1] w fun e w'=>∃A c,e=.returned (.tuple #[.slice A 1 c,.bool true,.int .i64 0])/\RB w' w'.heap.size A 1 [120]/\(∀a,A=some a->0<1->w.heap.size<=a.block)/\Below w.heap.size w w':=by
 have hC:=ZkY hn 2 Zqh [97];refine(Zhh (Kc:=1) api t1.at_ (ZlK 2 (.inr (.inr rfl)) [kA,kB]) 2 hk hB (by decide) hC.dir hC.ok hC.few hC.all).mono fun e w' hgot=>?_
 rcases hgot with ⟨hno,_,_⟩|⟨m,i,l,x,A,n,c,hl,hx,hf,rfl,_,_,hr,hnew,hb5⟩
 · exact absurd (hno 0 _ rfl) (by decide)
 · have hm0:m=0:=by
    have:=(ZZb.1 hl).1
    simpa using this
   subst hm0;obtain rfl:(⟨2,0,0,[kA,kB]⟩:Zw)=l:=by simpa using hl
   have hi0:i=0:=by
    have e0:findI [kA,kB] [97]=0:=by decide
    have hf:findI [kA,kB] [97]=(i:Int):=hf;omega
   subst hi0;obtain rfl:kA=x:=by simpa using hx
   obtain rfl:n=1:=hr.len.symm;exact⟨A,c,rfl,hr,hnew,hb5⟩
theorem Zrs(api:Zb D)(hP:200<=S.P/\S.P<=3000)(hn:200<=pagesOf S.n/\pagesOf S.n<=3000)(hlen:Ziz S){O:Nat->Prop}(hpg:ZaN D w F O p S q seq r b [])(htab:Zdf w F)(hout:¬O 1)(hb1:Below w0.heap.size w0 w)(hO:∀k,O k->w0.heap.size<=k) :
 Calls prog 39 #[.pointer (some ⟨r,0,none⟩)] w fun e w'=>∃st,e=.returned (.tuple #[.pointer (some ⟨st,0,none⟩),.int .i64 0])/\AwT D w0 w' F p S q seq r b st (awL 0 []):=by
 have ok:=(Zin hP).1;rw[<-ZqR]at ok;refine(ZeM api hpg htab hlen hout (Zrm hn) (by decide) (by decide) (by decide) (Zqg hn) (by decide) (by decide) (ZfU (.inl rfl)) (Zio (.inl rfl)) ok).mono fun e w' z=>?_
 obtain⟨st,e1,_,z2⟩:=z;rw[ZqR,(Zin hP).2]at z2;exact⟨st,e1,(AwT.aft hb1 hO z2).1⟩
end
section
variable{D:World->(Nat->Prop)->Addr->DS->Prop}
theorem ZjP(api:Zb D)(w:World)(ht:Tab w/\1<w.heap.size) :
 Calls prog 11 #[] w fun e w'=>e=.returned (.bool true)/\Below w.heap.size w w':=by
 have HFR:=hid (ZgD api w ht (P:=200) (by decide));obtain⟨S,hS⟩:∃S,S=S12 (2*200+1):=⟨_,rfl⟩
 rw[<-hS]at HFR;have hSn:S.n=2*200+1:=by rw[hS];exact(ZjI (n:=2*200+1) (by decide)).1
 have hn:200<=pagesOf S.n/\pagesOf S.n<=3000:=by rw[hSn];decide
 have hP:200<=S.P/\S.P<=3000:=hn;have hlen:Ziz S:=by rw[hS];exact ZoE (n:=2*200+1) (by decide)
 clear hS hSn;have kc:=fun(w:World) (C:Array Value) (n c:Nat)=>Lib.run_convert_bytes_const (P:=prog) w 55 5 C n c underlying55 underlying5
 have kc2:∀(w:World) (o:Obj) (C:Array Value) (n c:Nat),(convert 55 55 (.slice (some ⟨w.heap.size+1,0,none⟩) n c)).run prog ((w.alloc o).alloc (.cells C 5))=.ok (.slice (some ⟨w.heap.size+1,0,none⟩) n c) ((w.alloc o).alloc (.cells C 5 (C.size,C.size+1))):=fun w o C n c=>by
  have h:=kc (w.alloc o) C n c;rw[show(w.alloc o).heap.size=w.heap.size+1 by simp]at h;exact h
 go_enter func11,ntmps11;go_wp2_with fail;refine HFR.out.mono ?_;rintro e w1⟨r,b,q,F,p,rfl,hpg,hb1,hO⟩;have htab:Zdf w1 F:=⟨ht.1.below hb1 ht.2,ZZd ht.2 hb1.size,fun hf=>by have:=hO _ (.inl hf);omega⟩
 have HFO:=hid (Zrs api hP hn hlen hpg htab (fun hf=>by have:=hO _ hf;omega) hb1 hO);clear hpg htab hb1 hO HFR;go_wp2_with fail;refine HFO.out.mono ?_;rintro e w2⟨st,rfl,hT2⟩;have b1:=ZcR w2 97;have b2:=ZcR (w2.alloc (Zm3 97)) 120;have z1:(w2.alloc (Zm3 97)).heap.size=w2.heap.size+1:=by simp
 have z2:((w2.alloc (Zm3 97)).alloc (Zm3 120)).heap.size=w2.heap.size+1+1:=by simp
 have L1:=(ZeN w2 97 (by decide)).below (by rw[<-z1];exact b2);have L2:=ZeN (w2.alloc (Zm3 97)) 120 (by decide);rw[z1]at L2;have HP1:=hid (Zry api hP hn ((hT2.below api b1).below api b2) L1 (by omega) L2 (by omega));clear b1 b2 z1 z2 L1 L2;unfold Zm3 at HP1;clear HFO hT2;go_wp2_with fail;refine HP1.out.mono ?_;rintro e w3⟨rfl,hT3⟩;have HP2:=hid (Zrz api hP hn (hT3.below api (ZcR w3 98)) (ZeN w3 98 (by decide)) (by simp));unfold Zm3 at HP2;clear HP1 hT3;go_wp2_with fail;refine HP2.out.mono ?_;rintro e w4⟨rfl,O,t1,t2,t3⟩;have b4:=ZcR w4 97;have z4:(w4.alloc (Zm3 97)).heap.size=w4.heap.size+1:=by simp
 have HG:=hid (ZrA api hn (t1.below api b4) (ZeN w4 97 (by decide)) (by omega));have HT4:=hid (ZZg (t1.below api b4) (ZZg (t2.trans (b4.mono t2.size)) t3));have HO4:=hid (show ∀k,O k->k<w4.heap.size from fun k hk=>t1.at_.pg.lt k hk);have HZ4:=hid z4;unfold Zm3 at HG HT4 HZ4;clear HP2 t1 t2 t3 b4 z4;go_wp2_with fail;refine HG.out.mono ?_;rintro e w5⟨A,cA,rfl,hr5,hnew5,hb5⟩;obtain⟨t1,t2,t3⟩:=HT4.out;have b5:=ZcR w5 98;have z5:(w5.alloc (Zm3 98)).heap.size=w5.heap.size+1:=by simp
 have t2':=(t2.trans (hb5.mono t2.size))
 have HDL:=hid (Zrr api hP hn ((t1.below api hb5).below api b5) (t2'.trans (b5.mono t2'.size)) t3 (ZeN w5 98 (by decide)) (by omega) ((hr5.below b5).more b5.size) (fun a ha h0 hOa=>by
  have h1:=HO4.out _ hOa;have h2:=hnew5 a ha h0;have h3:=HZ4.out
  omega))
 unfold Zm3 at HDL;clear HG t1 t2 t3 t2' b5 z5 hr5 hnew5 hb5 HT4 HO4 HZ4;go_wp2_with fail;refine HDL.out.mono ?_;rintro e w6⟨rfl,⟨O',t1,t2,t3⟩,hr6⟩;have hcv:(convert 55 9 (.slice A 1 cA)).run prog w6=.ok (.string ⟨#[120]⟩) w6:=hr6.conv cA;have HLN:=hid (Zjw api t1 (ZlK 1 (.inr (.inl rfl)) [kA]));have HB6:=hid t2;clear HDL t1 t2 t3 hr6;go_wp2_with fail;refine HLN.out.mono ?_;rintro e w7⟨rfl,hb7⟩;have HE:=hid (HB6.out.trans (hb7.mono HB6.out.size));clear hb7 HLN;go_wp2_with fail;go_ret;exact⟨rfl,HE.out⟩
end
theorem ZoK:∃D,Zb D:=by
 refine⟨DAt,?_⟩
 exact {
  keep:=fun w w' F p S h hk=>h.keep hk
  lt:=fun w F p S h=>by
   obtain⟨b,sb,fb,left,pv,sN,fN,sf,ff,rfl,hrow,hrest,harm,hok,hdom,hcnt,hFb,hlt⟩:=h;exact hlt
  ok:=fun w F p S h=>by
   obtain⟨b,sb,fb,left,pv,sN,fN,sf,ff,rfl,hrow,hrest,harm,hok,hdom,hcnt,hFb,hlt⟩:=h;exact hok
  new:=fun n w h1 h2=>by
   obtain⟨k,rfl⟩:=Int.eq_ofNat_of_zero_le (show 0<=n by omega);refine(Zq5 k w (by omega) (by omega)).mono ?_;rintro e w'⟨p,rfl,F',hd,ht,hF⟩;refine⟨p,F',rfl,hd,ht.below (fun k h=>absurd h id) (ZZe _),fun k hk=>?_⟩;rcases hF k hk with a|a
   · exact absurd a id
   · exact a
  newNo:=fun n w h=>Zrt n w h
  read:=ZoW
  readAt:=Zql
  write:=fun i A n c B l w F p S h hr hc hn hw hA=>Znq i A n c B l w F p S h hr hc hn hw hA
  flush:=Znt
  arm:=fun i w F p S h hi=>Zq4 i w F p S h hi
  crash:=fun A n c B l w F p S h hr hc hm hA=>Znu A n c B l w F p S h hr hm
  sizes:=ZpZ
  sizeSame:=ZjY}
end Go.Proofs.YtlmkdmdbpopnhaaGreatDoor
