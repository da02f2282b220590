/- CtlD, TreD, VBy, CtlM, DocQ, DocM. Conditions: in each theorem. -/
import Derived.Test.YtiknkbpojmgbhaaGreatCtlC
import Derived.Test.YtiknkbpojmgbhaaGreatTreC
import Derived.Laws.ResultCell
import Derived.Test.YtiknkbpojmgbhaaGreatViewC
import Derived.Test.YtiknkbpojmgbhaaGreatManS
import Derived.Test.YtiknkbpojmgbhaaGreatDocE
set_option maxHeartbeats 12800000
set_option maxRecDepth 100000
set_option linter.unusedVariables false
open Go.Proofs.Tryz
open Go.Lib (hid)
namespace Go.Proofs.YtiknkbpojmgbhaaGreat
open Go.RowKit Go.Maps
theorem ZjN(a b d lo hi:Int)(ha:ZS a)(hb:ZS b)(hd:ZS d)(W:World):Calls prog 237 #[.int .i64 lo,.int .i64 hi,.slice (some ⟨W.heap.size,0,none⟩) 3 3] (W.alloc (.cells #[.int .i64 a,.int .i64 b,.int .i64 d] 3)) fun e w'=>e=.returned (.bool (inC lo hi [a,b,d]))/\Below (W.alloc (.cells #[.int .i64 a,.int .i64 b,.int .i64 d] 3)).heap.size (W.alloc (.cells #[.int .i64 a,.int .i64 b,.int .i64 d] 3)) w':=by
 have hr:=ZmR W 3 [a,b,d] #[.int .i64 a,.int .i64 b,.int .i64 d] rfl (by
  intro v hv;simp only[List.mem_cons,List.not_mem_nil,or_false]at hv;rcases hv with rfl|rfl|rfl
  · exact ha
  · exact hb
  · exact hd)
 have hs:W.heap.size+1<=(W.alloc (.cells #[.int .i64 a,.int .i64 b,.int .i64 d] 3)).heap.size:=by simp
 exact ZdN (n:=3) 3 hr hs (by decide) _ _
def ZoL(w wr:World)(g n cap:Nat)(P:List Nd)(p e q:Int)(j:Nat):Prop:=
 ∃vs,Zbh wr g n cap vs/\(∀a x,a<j->P[a]?=some x->NdI vs a (growN x p e q))/\(∀a x,j<=a->P[a]?=some x->NdI vs a x)/\Za (fun k=>k=g) w wr
section
variable{w wr wr':World}{g n cap:Nat}{P:List Nd}{p e q:Int}{j:Nat}
theorem ZoL.touch(h:ZoL w wr g n cap P p e q j)(hb:Below wr.heap.size wr wr'):ZoL w wr' g n cap P p e q j:=by
 obtain⟨vs,h1,h2,h3,h4⟩:=h;exact⟨vs,h1.keep (hb.block g h1.lt),h2,h3,h4.trans (Za.of_below hb)⟩
theorem ZoL.set(h:ZoL w wr g n cap P p e q j){x:Nd}(hx:P[j]?=some x)(hj:j<n):ZoL w ((((((((((((wr.setCell ⟨g,j*12,none⟩ (.int .i64 (growN x p e q).y)).setCell ⟨g,j*12+1,none⟩ (.int .i64 (growN x p e q).i)).setCell ⟨g,j*12+2,none⟩ (.int .i64 (growN x p e q).p)).setCell ⟨g,j*12+3,none⟩ (.int .i64 (growN x p e q).f)).setCell ⟨g,j*12+4,none⟩ (.int .i64 (growN x p e q).o)).setCell ⟨g,j*12+5,none⟩ (.bool (growN x p e q).ab)).setCell ⟨g,j*12+6,none⟩ (.int .i64 (growN x p e q).li)).setCell ⟨g,j*12+7,none⟩ (.int .i64 (growN x p e q).pr)).setCell ⟨g,j*12+8,none⟩ (.int .i64 (growN x p e q).en)).setCell ⟨g,j*12+9,none⟩ (.int .i64 (growN x p e q).ex)).setCell ⟨g,j*12+10,none⟩ (.int .i64 (growN x p e q).la)).setCell ⟨g,j*12+11,none⟩ (.int .i64 (growN x p e q).ca)) g n cap P p e q (j+1):=by
 obtain⟨vs,h1,h2,h3,h4⟩:=h;refine⟨_,h1.set12 hj (growN x p e q),fun a y ha hy=>?_,fun a y ha hy=>ZfF (h3 a y (by omega) hy) (by omega),h4.trans (ZkF wr g (j*12) (growN x p e q))⟩;by_cases haj:a=j
 · subst haj;rw[hx]at hy;cases hy;exact Zmr _ h1.len hj
 · exact ZfF (h2 a y (by omega) hy) haj
end
theorem Zk1{α:Type}{l:List α}{j:Nat}{x:α}(h:l[j]?=some x){Q:α->Prop}(hq:∀y∈l.take j,Q y)(hx:Q x):∀y∈l.take (j+1),Q y:=by
 obtain⟨hj,rfl⟩:=List.getElem?_eq_some_iff.1 h;intro y hy;rw[List.take_succ_eq_append_getElem hj]at hy;rcases List.mem_append.1 hy with hy|hy
 · exact hq y hy
 · obtain rfl:=List.mem_singleton.1 hy;exact hx
theorem Zf5{l:List Nd}{j:Nat}{x:Nd}(h:l[j]?=some x)(p e q:Int):Zc3 (l.take (j+1)) p e q=(Zc3 (l.take j) p e q||(chkN x p e q).1):=by
 obtain⟨hj,rfl⟩:=List.getElem?_eq_some_iff.1 h;unfold Zc3;rw[List.take_succ_eq_append_getElem hj,List.any_append];simp
theorem Zf6{l:List Nd}{j:Nat}{x:Nd}(h:l[j]?=some x)(p e q:Int)(S:VS):((l.take (j+1)).map fun x=>growN x p e q).foldl VS.putN S=(((l.take j).map fun x=>growN x p e q).foldl VS.putN S).putN (growN x p e q):=by
 obtain⟨hj,rfl⟩:=List.getElem?_eq_some_iff.1 h;rw[List.take_succ_eq_append_getElem hj,List.map_append,List.foldl_append];rfl
theorem Zie(Q:List Nd)(S:VS):(Q.foldl VS.putN S).C.length<=S.C.length+Q.length:=by
 induction Q generalizing S with
 | nil=>exact Nat.le_refl _
 | cons x Q ih=>
  rw[List.foldl_cons,List.length_cons];have h1:=ih (S.putN x);have h2:(S.putN x).C.length<=S.C.length+1:=ZL _ _ _;omega
section
variable{w w':World}{X:Nat->Prop}{v m c:Nat}{S:VS}
theorem Zf7(h:Ze w X v m c S)(y i p e q:Int)(hy:ZS y)(hi:ZS i)(hp:ZS p)(he:ZS e)(hq:ZS q)(hC:S.C.length<=1000000) :
 Calls prog 189 #[.pointer (some ⟨v,0,none⟩),.int .i64 y,.int .i64 i,.int .i64 p,.int .i64 e,.int .i64 q] w fun r w'=>r=.returned (.tuple #[.bool (chargeR S y i p e q).1.1,.int .i64 (chargeR S y i p e q).1.2])/\Ze w' X v m c (chargeR S y i p e q).2/\Za (fun k=>k=c) w w':=by
 have hP8:=ZdC S y 8 i;have HP:=hid (Zjp h y i hy hi);have HV:=hid (show ∀W,Below w.heap.size w W->Ze W X v m c S from fun W hW=>h.below hW);have hcw:c<w.heap.size:=h.lt c h.xc;have HIN:=hid (ZjN p e q (-9007199254740992) 9007199254740992 hp he hq);have e0:(pathN S y 8 i).length=0->chargeR S y i p e q=((false,7),S):=fun h=>by unfold chargeR;rw[if_pos (List.eq_nil_of_length_eq_zero h)]
 have e1:(pathN S y 8 i).length≠0->inC (-9007199254740992) 9007199254740992 [p,e,q]=false->chargeR S y i p e q=((false,9),S):=fun h g=>by unfold chargeR;rw[if_neg (fun q=>h (by rw[q];rfl)),if_pos g]
 have e2:(pathN S y 8 i).length≠0->inC (-9007199254740992) 9007199254740992 [p,e,q]=true->(∀x∈pathN S y 8 i,(chkN x p e q).2=0)->chargeR S y i p e q=((Zc3 (pathN S y 8 i) p e q,0),((pathN S y 8 i).map fun x=>growN x p e q).foldl VS.putN S):=fun h g k=>by unfold chargeR;rw[if_neg (fun q=>h (by rw[q];rfl)),if_neg (by rw[g];decide),ZmQ k,if_pos rfl]
 have e3:(pathN S y 8 i).length≠0->inC (-9007199254740992) 9007199254740992 [p,e,q]=true->∀(j:Nat) (x:Nd),(pathN S y 8 i)[j]?=some x->(∀z∈(pathN S y 8 i).take j,(chkN z p e q).2=0)->(chkN x p e q).2≠0->chargeR S y i p e q=((false,(chkN x p e q).2),S):=fun h g j x hx hz hn=>by unfold chargeR;rw[if_neg (fun q=>h (by rw[q];rfl)),if_neg (by rw[g];decide),ZgX hx hz hn,if_neg hn]
 have E:=hid (And.intro e0 (And.intro e1 (And.intro e2 e3)));clear e0 e1 e2 e3;generalize chargeR S y i p e q=res at E ⊢;generalize pathN S y 8 i=P at HP hP8 E;generalize inC (-9007199254740992) 9007199254740992 [p,e,q]=bb at HIN E;clear h;go_enter func189,ntmps189;go_wp2_with fail;refine HP.out.mono ?_;rintro r w1⟨u,rfl,h1⟩;by_cases hn0:P.length=0
 · obtain rfl:=E.out.1 hn0;obtain⟨A,k,rfl,hk⟩:=h1.1.shape;have k0:((P.length:Int) == 0)=true:=by rw[hn0];rfl
   have HE:=hid (And.intro (HV.out w1 h1.2.2) (Za.of_below (F:=fun k=>k=c) h1.2.2));clear E HP HIN h1 hn0 HV;go_wp2_with fail;go_ret2;exact⟨rfl,HE.out⟩
 obtain⟨h1a,h1ok,hb1⟩:=h1;have h1b:=h1a;rcases h1b.2 with ⟨rfl,h0⟩|⟨g,cap,cur,rfl,hbg,_⟩
 · exact absurd h0 hn0
 obtain⟨_,_,hrow⟩:=Zjo (v:=.slice none 0 0) h1a;have hM:ZoL w1 w1 g P.length cap P p e q 0:=⟨_,hrow,(fun a x ha=>absurd ha (Nat.not_lt_zero _)),(fun a x _ hx k hk=>Enc.all_at (E:=NdE) hx k hk),Za.refl _ _⟩
 have HM:=hid hM;have HB1:=hid hb1;have HOK:=hid h1ok;obtain⟨n,hn⟩:∃n,n=P.length:=⟨_,rfl⟩
 rw[<-hn]at HM hn0 hP8 ⊢;have HN:=hid hn;have hn1:0<n:=Nat.pos_of_ne_zero hn0;have k0:((n:Int) == 0)=false:=by simp;omega
 have E1:=hid (fun(h:bb=false)=>E.out.2.1 (by rw[<-HN.out];exact hn0) h);have E2:=hid (fun(h:bb=true)=>E.out.2.2.1 (by rw[<-HN.out];exact hn0) h);have E3:=hid (fun(h:bb=true)=>E.out.2.2.2 (by rw[<-HN.out];exact hn0) h);clear E hn h1a h1b h1ok hb1 hrow hM HP hn0;go_wp2_with fail;refine(HIN.out w1).mono ?_;rintro r w2⟨rfl,hb2⟩;have hb12:Below w1.heap.size w1 w2:=((Below.refl _ _).alloc (Nat.le_refl _) _).trans (hb2.mono (by simp));have HB2:=hid (HB1.out.trans (hb12.mono HB1.out.size));have HM2:=hid (HM.out.touch hb12);clear hb2 hb12 HIN HM;cases bb with
 | false=>
  obtain rfl:=E1.out rfl;have HE:=hid (And.intro (HV.out w2 HB2.out) (Za.of_below (F:=fun k=>k=c) HB2.out));clear E1 E2 E3 HV HM2 HOK;go_wp2_with fail;go_ret2;exact⟨rfl,HE.out⟩
 | true=>
 have F2:=hid (E2.out rfl);have F3:=hid (E3.out rfl);clear E1 E2 E3;go_wp2_with fail
 go_loopw[15,38] (fun uw iv wr=>∃j:Nat,j<=n/\iv=.int .i64 j/\uw=.bool (Zc3 (P.take j) p e q)/\Hid (ZoL w1 wr g n cap P p e q j/\(∀x∈P.take j,(chkN x p e q).2=0))) (fun _ iv _=>n-(intOf iv).toNat)
 case atStart=>exact⟨0,Nat.zero_le _,rfl,rfl,hid ⟨HM2.out,fun x hx=>by rw[List.take_zero]at hx;cases hx⟩⟩
 case round=>
  clear HM2;obtain⟨j,hj,rfl,rfl,HJ⟩:=hrel;by_cases hlt:j<n
  · have hlt':(j:Int)<(n:Int):=by omega
    have hj0:(0:Int)<=(j:Int):=by omega
    obtain⟨hmx,hal⟩:=HJ.out;obtain⟨x,hx⟩:∃x,P[j]?=some x:=⟨_,List.getElem?_eq_getElem (by rw[<-HN.out];exact hlt)⟩
    have hxok:=HOK.out x (List.mem_of_getElem? hx);obtain⟨vs,r1,r2,r3,r4⟩:=hmx;obtain⟨c0,c1,c2,c3,c4,c5,c6,c7,c8,c9,c10,c11⟩:=ZqU (r1.at_ (r3 j x (Nat.le_refl _) hx));obtain⟨wb,hwb⟩:∃wb,wb=wr.alloc (.cells #[.int .i64 x.y,.int .i64 x.i,.int .i64 x.p,.int .i64 x.f,.int .i64 x.o,.bool x.ab,.int .i64 x.li,.int .i64 x.pr,.int .i64 x.en,.int .i64 x.ex,.int .i64 x.la,.int .i64 x.ca] 40 (0,0)):=⟨_,rfl⟩
    have hbb:Below wr.heap.size wr wb:=by rw[hwb];exact(Below.refl _ _).alloc (Nat.le_refl _) _
    have hblk:wb.heap[wr.heap.size]?=some (.cells #[.int .i64 x.y,.int .i64 x.i,.int .i64 x.p,.int .i64 x.f,.int .i64 x.o,.bool x.ab,.int .i64 x.li,.int .i64 x.pr,.int .i64 x.en,.int .i64 x.ex,.int .i64 x.la,.int .i64 x.ca] 40 (0,0)):=by rw[hwb];exact heap_alloc_new wr _
    have hsz:wb.heap.size=wr.heap.size+1:=by rw[hwb];simp
    have HCK:=hid (ZmT x hxok p e q wb);have HGR:=hid (fun W=>Zh6 x p e q W);have HWS:=hid (Zf5 hx p e q);have HTA:=hid (fun h0=>Zk1 (Q:=fun z=>(chkN z p e q).2=0) hx hal h0);have HEE:=hid (fun h0=>F3.out j x hx hal h0);have HX:=hid (And.intro hx hxok)
    have HMX:=hid (show ∀W,Below wb.heap.size wb W->ZoL w1 W g n cap P p e q j/\W.heap[wr.heap.size]?=some (.cells #[.int .i64 x.y,.int .i64 x.i,.int .i64 x.p,.int .i64 x.f,.int .i64 x.o,.bool x.ab,.int .i64 x.li,.int .i64 x.pr,.int .i64 x.en,.int .i64 x.ex,.int .i64 x.la,.int .i64 x.ca] 40 (0,0))from fun W hW=>
     ⟨HJ.out.1.touch (hbb.trans (hW.mono hbb.size)),(hW.block _ (by omega)).trans hblk⟩)
    have HG1:=hid (Nat.le_trans HB1.out.size (by exact r4.size):w.heap.size<=wr.heap.size);have HTW:=hid (show ∀W,Below wb.heap.size wb W->Below w.heap.size w W from fun W hW=>HB1.out.trans ((r4.trans (Za.of_below (hbb.trans (hW.mono hbb.size)))).below (fun k hk=>by rw[hk];exact hbg) HB1.out.size));clear hal hx r1 r2 r3 r4 hxok HJ hblk hsz hbb;generalize chkN x p e q=ck at HCK HWS HTA HEE;obtain⟨ck1,ck2⟩:=ck;simp only at HCK HWS HTA HEE;obtain⟨bw,hbw⟩:∃bw,bw=Zc3 (P.take j) p e q:=⟨_,rfl⟩
    rw[<-hbw]at HWS ⊢;clear hbw;have HWS':=HWS.out;clear HWS;have HWS:=hid HWS';clear HWS';go_wp2_with fail;rw[<-hwb];clear hwb;refine HCK.out.mono ?_;rintro r w3⟨rfl,hb3⟩;have HB3:=hid hb3;clear c0 c1 c2 c3 c4 c5 c6 c7 c8 c9 c10 c11 HCK hb3;by_cases h0:ck2=0
    · have k1:(ck2 != 0)=false:=by simp[h0]
      have HTA':=hid (HTA.out h0);obtain⟨hm3,hbk3⟩:=HMX.out w3 HB3.out;have y0:w3.cell? ⟨wr.heap.size,0,none⟩=some (.int .i64 x.y):=by rw[cell_of_row w3 _ 0 _ _ (0,0) hbk3];rfl
      have y1:w3.cell? ⟨wr.heap.size,1,none⟩=some (.int .i64 x.i):=by rw[cell_of_row w3 _ 1 _ _ (0,0) hbk3];rfl
      have y2:w3.cell? ⟨wr.heap.size,2,none⟩=some (.int .i64 x.p):=by rw[cell_of_row w3 _ 2 _ _ (0,0) hbk3];rfl
      have y3:w3.cell? ⟨wr.heap.size,3,none⟩=some (.int .i64 x.f):=by rw[cell_of_row w3 _ 3 _ _ (0,0) hbk3];rfl
      have y4:w3.cell? ⟨wr.heap.size,4,none⟩=some (.int .i64 x.o):=by rw[cell_of_row w3 _ 4 _ _ (0,0) hbk3];rfl
      have y5:w3.cell? ⟨wr.heap.size,5,none⟩=some (.bool x.ab):=by rw[cell_of_row w3 _ 5 _ _ (0,0) hbk3];rfl
      have y6:w3.cell? ⟨wr.heap.size,6,none⟩=some (.int .i64 x.li):=by rw[cell_of_row w3 _ 6 _ _ (0,0) hbk3];rfl
      have y7:w3.cell? ⟨wr.heap.size,7,none⟩=some (.int .i64 x.pr):=by rw[cell_of_row w3 _ 7 _ _ (0,0) hbk3];rfl
      have y8:w3.cell? ⟨wr.heap.size,8,none⟩=some (.int .i64 x.en):=by rw[cell_of_row w3 _ 8 _ _ (0,0) hbk3];rfl
      have y9:w3.cell? ⟨wr.heap.size,9,none⟩=some (.int .i64 x.ex):=by rw[cell_of_row w3 _ 9 _ _ (0,0) hbk3];rfl
      have y10:w3.cell? ⟨wr.heap.size,10,none⟩=some (.int .i64 x.la):=by rw[cell_of_row w3 _ 10 _ _ (0,0) hbk3];rfl
      have y11:w3.cell? ⟨wr.heap.size,11,none⟩=some (.int .i64 x.ca):=by rw[cell_of_row w3 _ 11 _ _ (0,0) hbk3];rfl
      have HM3:=hid hm3;clear h0 HTA HEE hm3;cases bw with
      | true=>
       go_wp2_with fail;refine(HGR.out _).mono ?_;rintro r w4⟨rfl,hb4⟩;have hbk4:=(hb4.block _ (Array.getElem?_eq_some_iff.1 hbk3).1).trans hbk3
       have hr4:∃vs,Zbh w4 g n cap vs:=by
        obtain⟨vs,r1,_⟩:=HM3.out.touch hb4;exact⟨vs,r1⟩
       obtain⟨vs4,hr4⟩:=hr4;have hl4:=hr4.len;obtain⟨v0,i0⟩:∃u,w4.cell? ⟨g,j*12,none⟩=some u:=⟨_,hr4.cell (List.getElem?_eq_getElem (by omega))⟩
       have z0:=hr4.frozen (j*12);obtain⟨v1,i1⟩:∃u,w4.cell? ⟨g,j*12+1,none⟩=some u:=⟨_,hr4.cell (List.getElem?_eq_getElem (by omega))⟩
       have z1:=hr4.frozen (j*12+1);obtain⟨v2,i2⟩:∃u,w4.cell? ⟨g,j*12+2,none⟩=some u:=⟨_,hr4.cell (List.getElem?_eq_getElem (by omega))⟩
       have z2:=hr4.frozen (j*12+2);obtain⟨v3,i3⟩:∃u,w4.cell? ⟨g,j*12+3,none⟩=some u:=⟨_,hr4.cell (List.getElem?_eq_getElem (by omega))⟩
       have z3:=hr4.frozen (j*12+3);obtain⟨v4,i4⟩:∃u,w4.cell? ⟨g,j*12+4,none⟩=some u:=⟨_,hr4.cell (List.getElem?_eq_getElem (by omega))⟩
       have z4:=hr4.frozen (j*12+4);obtain⟨v5,i5⟩:∃u,w4.cell? ⟨g,j*12+5,none⟩=some u:=⟨_,hr4.cell (List.getElem?_eq_getElem (by omega))⟩
       have z5:=hr4.frozen (j*12+5);obtain⟨v6,i6⟩:∃u,w4.cell? ⟨g,j*12+6,none⟩=some u:=⟨_,hr4.cell (List.getElem?_eq_getElem (by omega))⟩
       have z6:=hr4.frozen (j*12+6);obtain⟨v7,i7⟩:∃u,w4.cell? ⟨g,j*12+7,none⟩=some u:=⟨_,hr4.cell (List.getElem?_eq_getElem (by omega))⟩
       have z7:=hr4.frozen (j*12+7);obtain⟨v8,i8⟩:∃u,w4.cell? ⟨g,j*12+8,none⟩=some u:=⟨_,hr4.cell (List.getElem?_eq_getElem (by omega))⟩
       have z8:=hr4.frozen (j*12+8);obtain⟨v9,i9⟩:∃u,w4.cell? ⟨g,j*12+9,none⟩=some u:=⟨_,hr4.cell (List.getElem?_eq_getElem (by omega))⟩
       have z9:=hr4.frozen (j*12+9);obtain⟨v10,i10⟩:∃u,w4.cell? ⟨g,j*12+10,none⟩=some u:=⟨_,hr4.cell (List.getElem?_eq_getElem (by omega))⟩
       have z10:=hr4.frozen (j*12+10);obtain⟨v11,i11⟩:∃u,w4.cell? ⟨g,j*12+11,none⟩=some u:=⟨_,hr4.cell (List.getElem?_eq_getElem (by omega))⟩
       have z11:=hr4.frozen (j*12+11);have HNX:=hid (And.intro ((HM3.out.touch hb4).set HX.out.1 hlt) HTA'.out);have HNW:=hid (show Zc3 (P.take (j+1)) p e q=true from by rw[HWS.out];rfl);generalize growN x p e q=G at HNX;clear hb4 hbk4 hbk3 hr4 hl4 HGR HMX HTW;go_wp2_with fail;go_roundw
       case rel=>exact⟨j+1,by omega,by go_num,by rw[HNW.out],HNX⟩
       case measure=>simp[intOf];omega
      | false=>
       cases ck1 with
       | true=>
        go_wp2_with fail;refine(HGR.out _).mono ?_;rintro r w4⟨rfl,hb4⟩;have hbk4:=(hb4.block _ (Array.getElem?_eq_some_iff.1 hbk3).1).trans hbk3
        have hr4:∃vs,Zbh w4 g n cap vs:=by
         obtain⟨vs,r1,_⟩:=HM3.out.touch hb4;exact⟨vs,r1⟩
        obtain⟨vs4,hr4⟩:=hr4;have hl4:=hr4.len;obtain⟨v0,i0⟩:∃u,w4.cell? ⟨g,j*12,none⟩=some u:=⟨_,hr4.cell (List.getElem?_eq_getElem (by omega))⟩
        have z0:=hr4.frozen (j*12);obtain⟨v1,i1⟩:∃u,w4.cell? ⟨g,j*12+1,none⟩=some u:=⟨_,hr4.cell (List.getElem?_eq_getElem (by omega))⟩
        have z1:=hr4.frozen (j*12+1);obtain⟨v2,i2⟩:∃u,w4.cell? ⟨g,j*12+2,none⟩=some u:=⟨_,hr4.cell (List.getElem?_eq_getElem (by omega))⟩
        have z2:=hr4.frozen (j*12+2);obtain⟨v3,i3⟩:∃u,w4.cell? ⟨g,j*12+3,none⟩=some u:=⟨_,hr4.cell (List.getElem?_eq_getElem (by omega))⟩
        have z3:=hr4.frozen (j*12+3);obtain⟨v4,i4⟩:∃u,w4.cell? ⟨g,j*12+4,none⟩=some u:=⟨_,hr4.cell (List.getElem?_eq_getElem (by omega))⟩
        have z4:=hr4.frozen (j*12+4);obtain⟨v5,i5⟩:∃u,w4.cell? ⟨g,j*12+5,none⟩=some u:=⟨_,hr4.cell (List.getElem?_eq_getElem (by omega))⟩
        have z5:=hr4.frozen (j*12+5);obtain⟨v6,i6⟩:∃u,w4.cell? ⟨g,j*12+6,none⟩=some u:=⟨_,hr4.cell (List.getElem?_eq_getElem (by omega))⟩
        have z6:=hr4.frozen (j*12+6);obtain⟨v7,i7⟩:∃u,w4.cell? ⟨g,j*12+7,none⟩=some u:=⟨_,hr4.cell (List.getElem?_eq_getElem (by omega))⟩
        have z7:=hr4.frozen (j*12+7);obtain⟨v8,i8⟩:∃u,w4.cell? ⟨g,j*12+8,none⟩=some u:=⟨_,hr4.cell (List.getElem?_eq_getElem (by omega))⟩
        have z8:=hr4.frozen (j*12+8);obtain⟨v9,i9⟩:∃u,w4.cell? ⟨g,j*12+9,none⟩=some u:=⟨_,hr4.cell (List.getElem?_eq_getElem (by omega))⟩
        have z9:=hr4.frozen (j*12+9);obtain⟨v10,i10⟩:∃u,w4.cell? ⟨g,j*12+10,none⟩=some u:=⟨_,hr4.cell (List.getElem?_eq_getElem (by omega))⟩
        have z10:=hr4.frozen (j*12+10);obtain⟨v11,i11⟩:∃u,w4.cell? ⟨g,j*12+11,none⟩=some u:=⟨_,hr4.cell (List.getElem?_eq_getElem (by omega))⟩
        have z11:=hr4.frozen (j*12+11);have HNX:=hid (And.intro ((HM3.out.touch hb4).set HX.out.1 hlt) HTA'.out);have HNW:=hid (show Zc3 (P.take (j+1)) p e q=true from by rw[HWS.out];rfl);generalize growN x p e q=G at HNX;clear hb4 hbk4 hbk3 hr4 hl4 HGR HMX HTW;go_wp2_with fail;go_roundw
        case rel=>exact⟨j+1,by omega,by go_num,by rw[HNW.out],HNX⟩
        case measure=>simp[intOf];omega
       | false=>
        go_wp2_with fail;refine(HGR.out _).mono ?_;rintro r w4⟨rfl,hb4⟩;have hbk4:=(hb4.block _ (Array.getElem?_eq_some_iff.1 hbk3).1).trans hbk3
        have hr4:∃vs,Zbh w4 g n cap vs:=by
         obtain⟨vs,r1,_⟩:=HM3.out.touch hb4;exact⟨vs,r1⟩
        obtain⟨vs4,hr4⟩:=hr4;have hl4:=hr4.len;obtain⟨v0,i0⟩:∃u,w4.cell? ⟨g,j*12,none⟩=some u:=⟨_,hr4.cell (List.getElem?_eq_getElem (by omega))⟩
        have z0:=hr4.frozen (j*12);obtain⟨v1,i1⟩:∃u,w4.cell? ⟨g,j*12+1,none⟩=some u:=⟨_,hr4.cell (List.getElem?_eq_getElem (by omega))⟩
        have z1:=hr4.frozen (j*12+1);obtain⟨v2,i2⟩:∃u,w4.cell? ⟨g,j*12+2,none⟩=some u:=⟨_,hr4.cell (List.getElem?_eq_getElem (by omega))⟩
        have z2:=hr4.frozen (j*12+2);obtain⟨v3,i3⟩:∃u,w4.cell? ⟨g,j*12+3,none⟩=some u:=⟨_,hr4.cell (List.getElem?_eq_getElem (by omega))⟩
        have z3:=hr4.frozen (j*12+3);obtain⟨v4,i4⟩:∃u,w4.cell? ⟨g,j*12+4,none⟩=some u:=⟨_,hr4.cell (List.getElem?_eq_getElem (by omega))⟩
        have z4:=hr4.frozen (j*12+4);obtain⟨v5,i5⟩:∃u,w4.cell? ⟨g,j*12+5,none⟩=some u:=⟨_,hr4.cell (List.getElem?_eq_getElem (by omega))⟩
        have z5:=hr4.frozen (j*12+5);obtain⟨v6,i6⟩:∃u,w4.cell? ⟨g,j*12+6,none⟩=some u:=⟨_,hr4.cell (List.getElem?_eq_getElem (by omega))⟩
        have z6:=hr4.frozen (j*12+6);obtain⟨v7,i7⟩:∃u,w4.cell? ⟨g,j*12+7,none⟩=some u:=⟨_,hr4.cell (List.getElem?_eq_getElem (by omega))⟩
        have z7:=hr4.frozen (j*12+7);obtain⟨v8,i8⟩:∃u,w4.cell? ⟨g,j*12+8,none⟩=some u:=⟨_,hr4.cell (List.getElem?_eq_getElem (by omega))⟩
        have z8:=hr4.frozen (j*12+8);obtain⟨v9,i9⟩:∃u,w4.cell? ⟨g,j*12+9,none⟩=some u:=⟨_,hr4.cell (List.getElem?_eq_getElem (by omega))⟩
        have z9:=hr4.frozen (j*12+9);obtain⟨v10,i10⟩:∃u,w4.cell? ⟨g,j*12+10,none⟩=some u:=⟨_,hr4.cell (List.getElem?_eq_getElem (by omega))⟩
        have z10:=hr4.frozen (j*12+10);obtain⟨v11,i11⟩:∃u,w4.cell? ⟨g,j*12+11,none⟩=some u:=⟨_,hr4.cell (List.getElem?_eq_getElem (by omega))⟩
        have z11:=hr4.frozen (j*12+11);have HNX:=hid (And.intro ((HM3.out.touch hb4).set HX.out.1 hlt) HTA'.out);have HNW:=hid (show Zc3 (P.take (j+1)) p e q=false from by rw[HWS.out];rfl);generalize growN x p e q=G at HNX;clear hb4 hbk4 hbk3 hr4 hl4 HGR HMX HTW;go_wp2_with fail;go_roundw
        case rel=>exact⟨j+1,by omega,by go_num,by rw[HNW.out],HNX⟩
        case measure=>simp[intOf];omega
    · have k1:(ck2 != 0)=true:=by simp[h0]
      obtain rfl:=HEE.out h0;have HE:=hid (And.intro (HV.out w3 (HTW.out w3 HB3.out)) (Za.of_below (F:=fun k=>k=c) (HTW.out w3 HB3.out)));clear h0 HTA HEE HMX HTW HV HGR F2 F3 HOK HX;go_wp2_with fail;go_ret2;exact⟨rfl,HE.out⟩
  · obtain rfl:j=n:=by omega
    obtain⟨hmx,hal⟩:=HJ.out;have htk:P.take j=P:=by rw[HN.out,List.take_length]
    rw[htk]at hal;have hE2:=F2.out hal;subst hE2;rw[htk];have hg1:w.heap.size<=w1.heap.size:=HB1.out.size;have hbw:Below w.heap.size w wr:=HB1.out.trans ((show Za (fun k=>k=g) w1 wr from by obtain⟨_,_,_,_,r4⟩:=hmx;exact r4).below (fun k hk=>by rw[hk];exact hbg) HB1.out.size)
    have HLL:=hid (show(∃vs,Zbh wr g j cap vs/\∀(a:Nat) (x:Nd),P[a]?=some x->NdI vs a (growN x p e q))/\Ze wr X v m c S/\Za (fun k=>k=c) w wr from by
     obtain⟨vs,r1,r2,r3,r4⟩:=hmx
     exact⟨⟨vs,r1,fun a x hx=>r2 a x (by have:=(List.getElem?_eq_some_iff.1 hx).1;rw[<-HN.out]at this;exact this) hx⟩,HV.out wr hbw,Za.of_below hbw⟩)
    clear hmx hal htk hg1 hbw HJ F2 F3 HV;obtain⟨bw,hbw⟩:∃bw,bw=Zc3 P p e q:=⟨_,rfl⟩
    rw[<-hbw];have HBW:=hid hbw;clear hbw;go_wp2_with fail;obtain⟨wo,hwo⟩:∃wo,wo=wr:=⟨_,rfl⟩
    subst hwo
    go_loopw[69] (fun iv wr=>∃k:Nat,k<=j/\iv=.int .i64 k/\Hid ((∃vs,Zbh wr g j cap vs/\∀(a:Nat) (x:Nd),P[a]?=some x->NdI vs a (growN x p e q))/\Ze wr X v m c (((P.take k).map fun x=>growN x p e q).foldl VS.putN S)/\Za (fun k=>k=c) w wr)) (fun iv _=>j-(intOf iv).toNat)
    case atStart=>exact⟨0,Nat.zero_le _,rfl,hid (by rw[List.take_zero];exact HLL.out)⟩
    case round=>
     clear HLL;obtain⟨k,hk,rfl,HK⟩:=hrel;by_cases hlt2:k<j
     · have hlt':(k:Int)<(j:Int):=by omega
       have hk0:(0:Int)<=(k:Int):=by omega
       obtain⟨⟨vs,r1,r2⟩,hvw,htw⟩:=HK.out;obtain⟨x,hx⟩:∃x,P[k]?=some x:=⟨_,List.getElem?_eq_getElem (by rw[<-HN.out];exact hlt2)⟩
       have hxok:=Zg0 (HOK.out x (List.mem_of_getElem? hx)) p e q;obtain⟨c0,c1,c2,c3,c4,c5,c6,c7,c8,c9,c10,c11⟩:=ZqU (r1.at_ (r2 k x hx));have hps:=Zf6 hx p e q S;have hlen:=Zie ((P.take k).map fun x=>growN x p e q) S;rw[List.length_map,List.length_take]at hlen;generalize growN x p e q=G at c0 c1 c2 c3 c4 c5 c6 c7 c8 c9 c10 c11 hxok hps;obtain⟨wb,hwb⟩:∃wb,wb=wr.alloc (.cells #[.int .i64 G.y,.int .i64 G.i,.int .i64 G.p,.int .i64 G.f,.int .i64 G.o,.bool G.ab,.int .i64 G.li,.int .i64 G.pr,.int .i64 G.en,.int .i64 G.ex,.int .i64 G.la,.int .i64 G.ca] 40 (0,0)):=⟨_,rfl⟩
       have hbb:Below wr.heap.size wr wb:=by rw[hwb];exact(Below.refl _ _).alloc (Nat.le_refl _) _
       have HPT:=hid (ZfD (hvw.below hbb) G hxok (by unfold maxLen;have:min k P.length<=k:=Nat.min_le_left _ _;omega));rw[<-hps]at HPT
       have HST:=hid (show ∀W,Ze W X v m c (((P.take (k+1)).map fun x=>growN x p e q).foldl VS.putN S)->Za (fun k=>k=c) wb W->(∃vs,Zbh W g j cap vs/\∀(a:Nat) (x:Nd),P[a]?=some x->NdI vs a (growN x p e q))/\Ze W X v m c (((P.take (k+1)).map fun x=>growN x p e q).foldl VS.putN S)/\Za (fun k=>k=c) w W from fun W hV hT=>by
        have r1b:=r1.keep (hbb.block g r1.lt)
        exact⟨⟨vs,r1b.keep (hT.block g r1b.lt (by omega)),r2⟩,hV,(htw.trans (Za.of_below hbb)).trans hT⟩)
       clear hx hvw htw r1 r2 hps hlen hbb HK hxok;go_wp2_with fail;rw[<-hwb];clear hwb;refine HPT.out.mono ?_;rintro r w5⟨rfl,h5,t5⟩;have HJ:=hid (HST.out w5 h5 t5);clear h5 t5 HPT HST c0 c1 c2 c3 c4 c5 c6 c7 c8 c9 c10 c11;go_wp2_with fail;go_roundw
       case rel=>exact⟨k+1,by omega,by go_num,HJ⟩
       case measure=>simp[intOf];omega
     · obtain rfl:k=j:=by omega
       obtain⟨_,hvw,htw⟩:=HK.out;rw[show P.take k=P by rw[HN.out,List.take_length]]at hvw;have HE:=hid (And.intro hvw htw);clear hvw htw HK;go_wp2_with fail;go_ret2;exact⟨congrArg (fun z=>Ending.returned (Value.tuple #[.bool z,.int .i64 0])) HBW.out,HE.out⟩
end
theorem ZbM.read{w w':World}{u:Value}{l:List Nd}(h:ZbM w w' u l):∃A k,u=.slice A l.length k/\l.length<=k/\NdE.R w' w'.heap.size A l.length l:=by
 obtain⟨A,k,rfl,hk⟩:=h.1.shape;obtain⟨_,_,hr⟩:=h.1.read h.2.1;exact⟨A,k,rfl,hk,hr⟩
theorem Zqy{w:World}{B:Nat}{A:Option Addr}{n:Nat}{l:List Nd}(h:NdE.R w B A n l){j:Nat}{x:Nd}(hx:l[j]?=some x):∃b off,A=some ⟨b,off,none⟩/\b<B/\NdE.At w b (off+j*12) x:=by
 have hj:=(List.getElem?_eq_some_iff.1 hx).1;obtain⟨b,off,rfl,hb,hc⟩:=h.2.2 (by rw[<-h.len];omega);exact⟨b,off,rfl,hb,hc j x hx⟩
theorem Ze.bytes{w:World}{X:Nat->Prop}{v m c:Nat}{S:VS}(h:Ze w X v m c S){x:Txt}{b:List Int}(hb:S.now x=some b):Zm b:=by
 unfold VS.now at hb
 split at hb
 · rename_i d hd
   obtain⟨f,_,h2⟩:=h.chg;obtain⟨u,e,hu⟩:=(h2 x).2 _ hd;subst hb;obtain⟨z,_,A,n,k,_,_,_,h3,_⟩:=hu;exact h3.bytes
 · obtain⟨f,_,h2⟩:=h.mem;obtain⟨u,e,hu⟩:=(h2 x).2 _ hb;obtain⟨A,n,k,_,_,_,h3,_⟩:=hu;exact h3.bytes
theorem Ze.nodeOk{w:World}{X:Nat->Prop}{v m c:Nat}{S:VS}(h:Ze w X v m c S){y i:Int}{n:Nd}(hn:nodeAt S y i=some n):ZbR n:=by
 unfold nodeAt at hn
 split at hn
 · refine Zod (Z3 (by omega) _) ?_ hn;show Zm ((S.now (nKy y i)).getD [])
   cases e:S.now (nKy y i)with
   | none=>exact Zm.nil
   | some b=>exact h.bytes e
 · cases hn
theorem Zck{S:VS}:∀(Q:List Nd) {S:VS} {n:Nat},Zv S n->Zv (Q.foldl VS.putN S) (n+Q.length)
 | [],S,n,h=>h
 | x::Q,S,n,h=>by
  rw[List.foldl_cons,List.length_cons]
  have:=Zck (S:=S) Q (h.put (x:=nKy x.y x.i) (by rw[ZkG];omega) (ZhO x))
  rw[show n+(Q.length+1)=n+1+Q.length by omega];exact this
theorem ZeY{S:VS}{n:Nat}(h:Zv S n)(y i p e q:Int):Zv (chargeR S y i p e q).2 (n+8):=by
 unfold chargeR;split
 · exact h.more (by omega)
 · split
   · exact h.more (by omega)
   · split
     · refine(Zck (S:=S) _ h).more ?_;rw[List.length_map]
       have:=ZdC S y 8 i
       omega
     · exact h.more (by omega)
theorem Zm1{S:VS}{n:Nat}(h:Zv S n)(k:Int):Zv (S.next k) (n+1):=by
 unfold VS.next;split
 · exact h.more (Nat.le_succ _)
 · exact h.put (by rw[ZZ,ZbZ];omega) _
theorem Zf8(i:Int):∀(l:List Dl) {S:VS} {n:Nat} (j:Nat),Zv S n->Zv (putLs S i j l) (n+l.length)
 | [],S,n,j,h=>h
 | x::r,S,n,j,h=>by
  have:=Zf8 i r (j+1) (h.put (x:=lKy i j) (by rw[ZZ,Zeb];omega) (Zg1 x))
  rw[List.length_cons,show n+(r.length+1)=n+1+r.length by omega];exact this
theorem Za2{S:VS}{n:Nat}(h:Zv S n)(d:Dc)(l:List Dl):Zv (putDoc S d l).2 (n+8):=by
 unfold putDoc;split
 · exact h.more (by omega)
 · rename_i hl
   split
   · exact((Zf8 _ l 0 (Zm1 h 2)).put (by rw[ZZ,Zh8];omega) _).more (by omega)
   · exact h.more (by omega)
end Go.Proofs.YtiknkbpojmgbhaaGreat
