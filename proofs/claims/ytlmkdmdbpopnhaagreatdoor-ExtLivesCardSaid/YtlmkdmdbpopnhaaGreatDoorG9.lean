/- RedoPE, RedoRF, Zbl, DevP, DevA, DevB. Conditions: in each theorem. -/
import Derived.Test.YtlmkdmdbpopnhaaGreatDoorG8
import Derived.Test.YtlmkdmdbpopnhaaGreatDoorG6
import Derived.Test.YtlmkdmdbpopnhaaGreatDoorG1
import Derived.Test.YtlmkdmdbpopnhaaGreatDoorG5
import Derived.Test.YtlmkdmdbpopnhaaGreatDoorG2
import Derived.StillTailTactics
import Derived.Maps.OwnSet
import Derived.Maps.OwnOps
import Derived.Deep.OwnRows
import Derived.BigQuiet
import Derived.Carry
set_option maxHeartbeats 4000000
set_option maxRecDepth 100000
set_option linter.unusedVariables false
open Go.Proofs.Tryz
open Go.Lib (hid)
namespace Go.Proofs.YtlmkdmdbpopnhaaGreatDoor
open Go.RowKit
def atHomes(P:Int)(l:List (Int×List Int)):List (Int×List Int):=l.map fun y=>(y.1+1+P,y.2)
theorem ZdY(l:List (Int×List Int)):∀S:DS,Zdk S (atHomes S.P l)=ZK S l:=by
 induction l with
 | nil=>intro S;rfl
 | cons y r ih=>
  intro S;rw[Zk5];show ZaP (S.wr (y.1+1+S.P) y.2) (fun S'=>Zdk S' (atHomes S.P r))=ZaP (S.wr (y.1+1+S.P) y.2) (fun S'=>ZK S' r);by_cases h:(S.wr (y.1+1+S.P) y.2).1=0
  · rw[Zb4 h,Zb4 h]
    have hn:(S.wr (y.1+1+S.P) y.2).2.P=S.P:=by
     show pagesOf _=pagesOf _;rw[show(S.wr (y.1+1+S.P) y.2).2.n=S.n from Ze4 _ _ _]
    have:=ih (S.wr (y.1+1+S.P) y.2).2
    rw[hn]at this;exact this
  · rw[Zdc h,Zdc h]
def redoS(S:DS)(r:Option (List (Int×List Int))):Int×DS:=match r with|none=>(0,S)|some l=>ZK S l
section
variable{D:World->(Nat->Prop)->Addr->DS->Prop}{w:World}{F:Nat->Prop}{p:Addr}{S:DS}{q:Nat}{seq:Int}
theorem ZpW(api:Zb D)(h:D w F p S)(hq:Zdq w q p seq)(ht:Zdf w F)(hd:S.down=false)(count:Nat)(hc:count<=4294967296)(hw:S.writes<=9223372036854700000) :
 Calls prog 88 #[.pointer (some ⟨q,0,none⟩),.int .i64 (count:Int)] w fun e w'=>e=.returned (.int .i64 (redoS S (Zae S.n S.last count seq)).1)/\Z4 D w F p (redoS S (Zae S.n S.last count seq)).2 w':=by
 have hok:=api.ok _ _ _ _ h;have hlt:=api.lt _ _ _ _ h;have hsz:=hok.size;have hpb:=Zm (S.n:Int);have hpn:=(ZN (S.n:Int)).2.1 (by omega);have HP:=hid (ZoO api h hq);have HH:=hid (fun w1 (hb:Below w.heap.size w w1) i hi=>Zm9 api (api.below h hb) (hq.below hb) (ht.below hb) hd i hi);have HD:=hid (fun w1 (hb:Below w.heap.size w w1)=>api.below h hb);have LC:=hid (fun w1 (hb:Below w.heap.size w w1)=>(hq.below hb).cells);have HL:=hid (fun w1 (hb:Below w.heap.size w w1)=>Z4.later api h hb);clear hq ht h;by_cases hcp:pagesOf (S.n:Int)<(count:Int)
 · have k1:decide (pagesOf (S.n:Int)<(count:Int))=true:=by simpa using hcp
   have HN:=hid (show Zae S.n S.last count seq=none by unfold Zae;rw[if_pos hcp]);clear hcp;go_enter func88,ntmps88;go_wp2_with fail;refine HP.out.mono ?_;rintro e w1⟨rfl,hb⟩;have hF:=hid (HL.out _ hb);clear hb;go_wp2;go_ret;rw[HN.out];exact⟨rfl,hF.out⟩
 · have k1:decide (pagesOf (S.n:Int)<(count:Int))=false:=by simpa using hcp
   have HSO:=hid (show ∀r,Zas S.n S.last seq count=r->Zae S.n S.last count seq=r from fun r hr=>by unfold Zae;rw[if_neg (by omega),Int.toNat_natCast];exact hr);go_enter func88,ntmps88;go_wp2_with fail;refine HP.out.mono ?_;rintro e w1⟨rfl,hb1⟩;have HB1:=hid hb1;clear hb1;go_wp2
   go_loopw[5,15] (fun ov i wr=>∃(k:Nat) (l:List (Int×List Int)),k<=count/\i=.int .i64 k/\Hid (Zas S.n S.last seq k=some l/\ZgR 141 256 wr F w.heap.size ov (atHomes (pagesOf S.n) l)/\Below w.heap.size w wr)) (fun _ i _=>count-(intOf i).toNat)
   case atStart=>exact⟨0,[],Nat.zero_le _,rfl,hid ⟨rfl,ZgR.start _ _ _ _ _,HB1.out⟩⟩
   case round=>
    obtain⟨k,l,hk,rfl,hM⟩:=hrel;by_cases hlt2:k<count
    · obtain⟨hup,hrow,hb⟩:=hM.out;have hlt':(k:Int)<(count:Int):=by omega
      have hho:=HH.out wr hb k (by omega);obtain⟨A0,c0,rfl,hAc,_⟩:=hrow.imgs (by decide);go_wp2_with fail;refine hho.mono ?_;rintro e w2⟨hb2,hr⟩;have hb02:=hb.trans (hb2.mono hb.size);rcases hsi:Zcq S.n S.last seq k with _|y
      · rw[hsi]at hr;have hr:e=.returned (.tuple #[.agg #[.int .i64 0,.slice none 0 0],.bool false,.int .i64 0]):=hr;subst hr;have HN:=hid (HSO.out none (ZjS (ZjU hsi) (by omega)));have hF:=hid (HL.out _ ((hb02.alloc hb02.size (.cells #[.int .i64 0,.slice none 0 0] 141))));clear hrow hup hM hsi hb2 hb hho hb02;go_wp2;go_ret;rw[HN.out];exact⟨rfl,hF.out⟩
      · rw[hsi]at hr;obtain⟨g,c,rfl,h256,hg,hrb⟩:∃g c,e=.returned (.tuple #[.agg #[.int .i64 (y.1+1+pagesOf S.n),.slice (some ⟨g,0,none⟩) 256 c],.bool true,.int .i64 0])/\256<=c/\wr.heap.size<=g/\RB w2 w2.heap.size (some ⟨g,0,none⟩) 256 y.2:=hr;have hgl:g<w2.heap.size:=by obtain⟨bb,_,e,hbb,_⟩:=hrb.at_ (by decide);cases e;exact hbb
        have hbs:=hb.size;have hX1:Below w2.heap.size w2 (w2.alloc (.cells #[.int .i64 (y.1+1+pagesOf S.n),.slice (some ⟨g,0,none⟩) 256 c] 141)):=(Below.refl _ _).alloc (ZZe _) _;have hrow2:=hrow.below (by decide) hb2;obtain⟨vs,hvs,hvl⟩:=hrow2.row;have hX2:Below w2.heap.size w2 ((w2.alloc (.cells #[.int .i64 (y.1+1+pagesOf S.n),.slice (some ⟨g,0,none⟩) 256 c] 141)).alloc (.cells #[.int .i64 (y.1+1+pagesOf S.n),.slice (some ⟨g,0,none⟩) 256 c] 141)):=hX1.alloc hX1.size _;have hvsX:=ZcS hvs (fun r hr=>hX2.block r (Zcj hvs r hr).2)
        have hbk:((w2.alloc (.cells #[.int .i64 (y.1+1+pagesOf S.n),.slice (some ⟨g,0,none⟩) 256 c] 141)).alloc (.cells #[.int .i64 (y.1+1+pagesOf S.n),.slice (some ⟨g,0,none⟩) 256 c] 141)).heap[w2.heap.size+1]?=some (.cells #[.int .i64 (y.1+1+pagesOf S.n),.slice (some ⟨g,0,none⟩) 256 c] 141 (0,0)):=by
         have:=heap_alloc_new (w2.alloc (.cells #[.int .i64 (y.1+1+pagesOf S.n),.slice (some ⟨g,0,none⟩) 256 c] 141)) (.cells #[.int .i64 (y.1+1+pagesOf S.n),.slice (some ⟨g,0,none⟩) 256 c] 141)
         simpa using this
        have hno:(Value.slice A0 (atHomes (pagesOf S.n) l).length c0).ownBlock≠some g:=fun e=>by
         obtain⟨vs0,hv0,_⟩:=hrow.row
         have:=(Zcj hv0 g e).2
         omega
        have hfar:Far w2 F (.slice A0 (atHomes (pagesOf S.n) l).length c0) (.slice (some ⟨g,0,none⟩) 256 c) 256 y.2:=⟨g,c,rfl,h256,fun hf=>by have:=hlt g hf;omega,hno,hgl,hrb⟩
        have hllen:(atHomes (pagesOf S.n) l).length=k:=by rw[<-(Zcg k hup).1];simp[atHomes]
        have HPU:=hid (fun(w3:World) (A':Option Addr) (c':Nat) h1 h2 h3=>hrow2.push (v':=.slice A' ((atHomes (pagesOf S.n) l).length+1) c') (w1:=w3) (x:=y.1+1+pagesOf S.n) (by decide) (fun k hk=>by have:=hlt k hk;have:=hb02.size;omega) hfar hvs hvl hX2 h1 h2 h3);have HUP:=hid (ZjT hup hsi);have HB02:=hid hb02;have HAT:atHomes (pagesOf S.n) (l++[y])=atHomes (pagesOf S.n) l++[(y.1+1+pagesOf S.n,y.2)]:=by simp[atHomes]
        have hs2:=hb02.size;have HOV:=hid (fun r hr=>(Zcj hvs r hr).1);have hk64:(atHomes (pagesOf S.n) l).length<=4294967296:=by omega
        clear hrow hup hM hsi hb2 hb hho hrow2 hfar hvl hrb hX1 hb02 hvs hno hllen;generalize atHomes (pagesOf S.n) l=LL at *
        go_wp2_with (at_builtin;refine ZaJ rfl _ _ 198 141 rfl underlying198 Zfk w.heap.size (.slice A0 LL.length c0) LL.length vs rfl (w2.heap.size+1) (.int .i64 (y.1+1+pagesOf S.n)) (.slice (some ⟨g,0,none⟩) 256 c) 141 rfl hvsX hbk rfl rfl (by omega) (by simp;omega) ?_;intro A4 c4 w4 hown4 hg4 hl4;have HO4:=hid (ZZg hown4 (ZZg hg4 hl4));clear hown4 hg4 hl4)
        obtain⟨q1,q2,q3⟩:=HPU.out w4 A4 c4 HO4.out.1 HO4.out.2.1 (by
         rcases HO4.out.2.2 with a|a
         · exact .inl a
         · exact .inr ⟨_,a,by simp;omega⟩)
        have hb4:Below w.heap.size w w4:=(HB02.out.trans (hX2.mono hs2)).grown HO4.out.2.1 (by have:=hX2.size;omega) HOV.out;have HRE:=hid (ZZg HUP.out (ZZg q1 hb4));clear q1 q2 q3 hb4 hX2 hvsX hbk;go_roundw
        case rel=>exact⟨k+1,l++[y],by omega,by go_num,hid ⟨HRE.out.1,HAT ▸ HRE.out.2.1,HRE.out.2.2⟩⟩
        case measure=>simp[intOf];omega
    · obtain rfl:k=count:=by omega
      obtain⟨hup,hrow,hb⟩:=hM.out;have HSO2:=hid (HSO.out _ hup);obtain⟨A0,c0,rfl,hAc,him⟩:=hrow.imgs (by decide);obtain⟨l0,l1,_,_⟩:=LC.out wr hb;have hll:=(Zcg k hup).1;have hlh:(atHomes (pagesOf S.n) l).length=k:=by rw[<-hll];simp[atHomes]
      have h256:∀y∈atHomes (pagesOf S.n) l,y.2.length=256:=fun y hy=>by
       obtain⟨z,hz,rfl⟩:=List.mem_map.1 hy;obtain⟨i,hi,e⟩:=List.getElem_of_mem hz;obtain⟨_,_,_,e4⟩:=Zgo ((Zcg k hup).2 i z (by rw[ZZc hi,e]));rw[e4];exact(hok.lastBytes _).1
      have HPT:=hid (ZgN api (c:=c0) (HD.out wr hb) him h256 (by omega) (by omega));have HTB:=hid (Zf.of_below (F:=F) hb);have HPH:=hid (show Zdk S (atHomes (pagesOf S.n) l)=ZK S l from ZdY l S);clear hup hrow hb hM him h256 hll hlh;go_wp2_with fail;refine HPT.out.mono ?_;rw[HPH.out];rintro e w2⟨rfl,hW⟩;have hF:=hid (Z4.join HTB.out (fun k hk=>.inl hk) hW);clear hW;go_wp2;go_ret;rw[HSO2.out];exact⟨rfl,hF.out⟩
def Zq3(D:World->(Nat->Prop)->Addr->DS->Prop)(w:World)(F:Nat->Prop)(p:Addr)(r:Int×Int×DS)(e:Ending)(w':World):Prop:=
 (r.1≠0/\e=.returned (.tuple #[.pointer none,.int .i64 r.1])/\Z4 D w F p r.2.2 w')∨
 (r.1=0/\∃q F',e=.returned (.tuple #[.pointer (some ⟨q,0,none⟩),.int .i64 0])/\w.heap.size<=q/\Zdq w' q p r.2.1/\¬F' q/\D w' F' p r.2.2/\Zf F w w'/\∀k,F' k->F k∨w.heap.size<=k)
theorem Ziv(S:DS)(seq:Int)(r:Option (List (Int×List Int))):ZfX S seq r=if(redoS S r).1≠0 then((redoS S r).1,0,(redoS S r).2)else(0,seq,(redoS S r).2):=by
 cases r with
 | none=>rfl
 | some l=>rfl
theorem Znb(api:Zb D){w1 w2:World}{R:Int×DS}(h:D w F p S)(hX:Below w.heap.size w w1)(hq:Zdq w1 q p seq)(hqw:w.heap.size<=q)(hW:Z4 D w1 F p R.2 w2) :
 Z4 D w F p R.2 w2/\∃F',Zdq w2 q p seq/\¬F' q/\D w2 F' p R.2/\Zf F w w2/\∀k,F' k->F k∨w.heap.size<=k:=by
 have hlt:=api.lt _ _ _ _ h;have hqF:¬F q:=fun hf=>by have:=hlt q hf;omega
 refine⟨Z4.join (Zf.of_below hX) (fun k hk=>.inl hk) hW,?_⟩;obtain⟨F',j1,j2,j3⟩:=hW;have hql:=hq.cells.2.2.2;refine⟨F',hq.keep (j2.block q hql hqF),fun hf=>?_,j1,(Zf.of_below hX).join (fun k hk=>.inl hk) j2,Zde hX.size (fun k hk=>.inl hk) j3⟩;rcases j3 q hf with a|a
 · exact hqF a
 · omega
theorem ZpX(api:Zb D)(h:D w F p S)(ht:Zdf w F)(hw:S.writes<=9223372036854700000) :
 Calls prog 35 #[.pointer (some p)] w fun e w'=>Zq3 D w F p (ZaF S) e w':=by
 have hok:=api.ok _ _ _ _ h;have hlt:=api.lt _ _ _ _ h;have hsz:=hok.size;have HM:=hid ZbH.mark;have HL:=hid (fun w1 (hb:Below w.heap.size w w1)=>Z4.later api h hb);by_cases hd:S.down=true
 · have hO:ZaF S=(5,0,S):=by unfold ZaF;rw[if_pos hd]
   have hre:S.readE 0=5:=by simp[DS.readE,hd]
   have HRD:=hid (api.read 0 w F p S h);rw[hre]at HRD;rw[hO];clear hO hre h hok hd ht;go_enter func35,ntmps35
   go_wp2_with (go_at_call 86;refine(HM.out _).mono ?_;rintro e w3 ⟨rfl,rfl⟩)
   refine HRD.out.mono ?_;rintro e w1⟨A,n,c,rfl,_,_,hb⟩;have HW:=hid (HL.out w1 hb);clear hb;go_wp2;go_ret2;exact .inl ⟨by show ¬(5:Int)=0;decide,rfl,HW.out⟩
 have hd':S.down=false:=by simpa using hd
 have hre:S.readE 0=0:=by
  unfold DS.readE;rw[if_neg (by simp[hd']),if_pos (show S.has _ from⟨by omega,by omega⟩)]
 have HRD:=hid (api.readAt 0 w F p S h hre);rw[show(0:Int).toNat=0 from rfl]at HRD;have HT:=hid (fun w1 (hb:Below w.heap.size w w1)=>ht.below hb);have HUP:=hid Zep;by_cases he:(Zd (S.last 0)).2.2.2=0
 · have hcnt:=Zfz he;have hpg:=Zeg he;obtain⟨count,hcount⟩:=Int.eq_ofNat_of_zero_le hpg.1;have HE:=hid he;have HC:=hid hcount;have HR:=hid (fun(w1:World) (hb:Below w.heap.size w w1) (q:Nat) (hq:Zdq w1 q p (Zd (S.last 0)).2.1)=>ZpW api (api.below h hb) hq (ht.below hb) hd' count (by omega) hw);have HO:=hid (show ZaF S=ZfX S (Zd (S.last 0)).2.1 (Zae S.n S.last count (Zd (S.last 0)).2.1) by rw[ZpS hd' he,hcount]);have HD0:=hid h;clear hd hd' hcnt hpg hcount he hre h hok ht;generalize hseq:(Zd (S.last 0)).2.1=seq at HR HO ⊢;have HSQ:=hid hseq;clear hseq;go_enter func35,ntmps35
   go_wp2_with (go_at_call 86;refine(HM.out _).mono ?_;rintro e w3 ⟨rfl,rfl⟩)
   refine HRD.out.mono ?_;rintro e w1⟨g,c,rfl,hc,hg,hr1,hb1⟩;have ht1:=HT.out w1 hb1;go_wp2_with fail;refine(HUP.out (some ⟨g,0,none⟩) 256 c _ _ w1 hr1 (ZZe _) hc (by omega) ht1.tab ht1.lt).mono ?_;rw[HE.out,HC.out,HSQ.out];rintro e w2⟨A2,n2,c2,rfl,_,_,hb2⟩;have hb02:=hb1.trans (hb2.mono hb1.size);have hs02:=hb02.size;have hX:Below w.heap.size w (w2.alloc (.cells #[.pointer (some p),.int .i64 seq] 148)):=hb02.alloc hs02 _;have hq:Zdq (w2.alloc (.cells #[.pointer (some p),.int .i64 seq] 148)) w2.heap.size p seq:=heap_alloc_new _ _;have HRX:=hid (HR.out _ hX _ hq);have HX:=hid (ZZg hX hq);clear hr1 hb1 hb2 hb02 hX hq ht1;go_wp2_with fail;refine HRX.out.mono ?_;rintro e w4⟨rfl,hW⟩;have HEND:=hid (Znb (R:=redoS S (Zae S.n S.last count seq)) api HD0.out HX.out.1 HX.out.2 hs02 hW);have HO2:=hid (HO.out.trans (Ziv S seq (Zae S.n S.last count seq)));clear hW HRX HR HO;generalize redoS S (Zae S.n S.last count seq)=R at HEND HO2 ⊢;by_cases h0:R.1=0
   · have H0:=hid h0;have HO3:=hid (HO2.out.trans (if_neg (fun h=>h h0)));rw[h0];clear h0 HO2;go_wp2;go_ret2;rw[HO3.out];obtain⟨_,F',q1⟩:=HEND.out;exact .inr ⟨rfl,_,F',rfl,hs02,q1⟩
   · have H0:=hid h0;have kne:(R.1 != 0)=true:=by simpa using h0
     have HO3:=hid (HO2.out.trans (if_pos h0));clear h0 HO2;go_wp2;go_ret2;rw[HO3.out];exact .inl ⟨H0.out,rfl,HEND.out.1⟩
 · have he4:(Zd (S.last 0)).2.2.2=4:=by
    rcases unpack_err (S.last 0)with e|e
    · exact absurd e he
    · exact e
   have HO:=hid (show ZaF S=(4,0,S) by unfold ZaF;rw[if_neg hd,if_pos he]);have HE:=hid he4;clear he he4 hd hd' h hre ht hok;go_enter func35,ntmps35
   go_wp2_with (go_at_call 86;refine(HM.out _).mono ?_;rintro e w3 ⟨rfl,rfl⟩)
   refine HRD.out.mono ?_;rintro e w1⟨g,c,rfl,hc,hg,hr1,hb1⟩;have ht1:=HT.out w1 hb1;go_wp2_with fail;refine(HUP.out (some ⟨g,0,none⟩) 256 c _ _ w1 hr1 (ZZe _) hc (by omega) ht1.tab ht1.lt).mono ?_;rw[HE.out];rintro e w2⟨A2,n2,c2,rfl,_,_,hb2⟩;have HW:=hid (HL.out w2 (hb1.trans (hb2.mono hb1.size)));clear hr1 hb1 hb2 ht1;go_wp2;go_ret2;rw[HO.out];exact .inl ⟨by show ¬(4:Int)=0;decide,rfl,HW.out⟩
end
theorem Zck{B:Nat}{w w':World}(h:Below B w w'):∀n,Below B w (w'.drewN n):=fun n=>⟨h.os,h.tape,h.output,h.size,h.block⟩
end Go.Proofs.YtlmkdmdbpopnhaaGreatDoor
namespace Go.Proofs.YtlmkdmdbpopnhaaGreatDoor
open Go.RowKit Go.Maps Go.ChangeMaps Go.MapKept
def ZeO(v:Value):Option (DataW Value×List MemPlace):=some (.held v,[])
theorem ZgP:Keyed prog 3:=int_keyed underlying3
theorem Zla{i:Int}(h : -9223372036854775808<=i/\i<=9223372036854775807):keyOf prog 3 (.int .i64 i)=some (.int .i64 i):=
 keyOf_int_mk underlying3 (WalkArith.wf_i64 (by omega))
def Zbl(w:World)(b n:Nat)(f:Int->Option Value):Prop:=
 ∃D:DataW Value,w.ownsMap prog 3 ZeO b n D/\∀i:Int,Maps.has D (.int .i64 i)=(f i).isSome/\∀v z,f i=some v->D.atKey (.int .i64 i) z=.held v
section
variable{w w':World}{b n:Nat}{f:Int->Option Value}
theorem Zbl.made(w:World):Zbl (w.alloc (.map #[] 0)) w.heap.size 0 (fun _=>none):=
 ⟨_,World.ownsMap_made w _ _ _,fun i=>⟨rfl,fun v z h=>by cases h⟩⟩
theorem Zbl.lt(h:Zbl w b n f):b<w.heap.size:=by
 obtain⟨D,h1,_⟩:=h;exact h1.lt
theorem Zbl.block(h:Zbl w b n f):∃es c,w.heap[b]?=some (.map es c):=by
 obtain⟨D,⟨es,c,hb,_⟩,_⟩:=h;exact⟨es,c,hb⟩
theorem Zbl.of_block(h:Zbl w b n f)(e:w'.heap[b]?=w.heap[b]?):Zbl w' b n f:=by
 obtain⟨D,⟨es,c,hb,rest⟩,hf⟩:=h;exact⟨D,⟨es,c,e.trans hb,rest⟩,hf⟩
theorem Zbl.mono(h:Zbl w b n f){m:Nat}(hm:n<=m):Zbl w b m f:=by
 obtain⟨D,h1,hf⟩:=h;exact⟨D,h1.mono hm,hf⟩
theorem Zbl.congr(h:Zbl w b n f){g:Int->Option Value}(e:∀i,f i=g i):Zbl w b n g:=by
 obtain⟨D,h1,hf⟩:=h;exact⟨D,h1,fun i=>by rw[<-e i];exact hf i⟩
theorem ZoP{D:DataW Value}{k:Lit}(h:Maps.has D k=false)(z:DataW Value):D.atKey k z=z:=Maps.atKey_of_not_has h z
theorem Zbl.look(h:Zbl w b n f){t e:TypeId}(ht:prog.underlying t=some (.map 3 e)){z:Value}(hz:(zeroValue e).run prog w=.ok z w){i:Int}(hi : -9223372036854775808<=i/\i<=9223372036854775807) :
 (Instr.lookup t (.map (some b)) (.int .i64 i) true).run prog w=.ok (.tuple #[(f i).getD z,.bool (f i).isSome]) w:=by
 obtain⟨D,h1,hf⟩:=h;obtain⟨v,ps,hrun,hv⟩:=h1.look_ok ZgP ht hz (show ZeO z=some (.held z,[])from rfl) (Zla hi);obtain⟨hh,ha⟩:=hf i;rw[hrun,hh]
 have hv':DataW.held v=D.atKey (.int .i64 i) (.held z):=by
  have:=Option.some.inj hv
  exact congrArg Prod.fst this
 rcases hfi:f i with _|u
 · rw[hfi]at hh;rw[ZoP hh]at hv'
   cases hv';rfl
 · rw[ha u _ hfi]at hv'
   cases hv';rfl
theorem Zbl.get(h:Zbl w b n f){t e:TypeId}(ht:prog.underlying t=some (.map 3 e)){z:Value}(hz:(zeroValue e).run prog w=.ok z w){i:Int}(hi : -9223372036854775808<=i/\i<=9223372036854775807){u:Value}(hu:f i=some u) :
 (Instr.lookup t (.map (some b)) (.int .i64 i) false).run prog w=.ok u w:=by
 obtain⟨D,h1,hf⟩:=h;obtain⟨v,ps,hrun,hv⟩:=h1.lookup ZgP ht hz (show ZeO z=some (.held z,[])from rfl) (Zla hi);obtain⟨hh,ha⟩:=hf i;rw[hrun]
 have hv':DataW.held v=D.atKey (.int .i64 i) (.held z):=by
  have:=Option.some.inj hv
  exact congrArg Prod.fst this
 rw[ha u _ hu]at hv'
 cases hv';rfl
theorem Zbl.store(h:Zbl w b n f){t e:TypeId}(ht:prog.underlying t=some (.map 3 e))(hn:n<maxLen){i:Int}(hi : -9223372036854775808<=i/\i<=9223372036854775807)(u:Value) :
 ∃w',(Instr.mapUpdate t (.map (some b)) (.int .i64 i) u).run prog w=.ok () w'/\Zbl w' b (n+1) (fun j=>if j=i then some u else f j)/\w.grownBy w' (some b):=by
 obtain⟨D,h1,hf⟩:=h;obtain⟨w',hrun,h2,h3⟩:=h1.update ZgP ht hn (Zla hi) (show ZeO u=some (.held u,[])from rfl);refine⟨w',hrun,⟨_,h2,fun j=>?_⟩,h3⟩;by_cases e:j=i
 · subst e;show Maps.has _ _=(if j=j then some u else f j).isSome/\∀v z,(if j=j then some u else f j)=some v->_;rw[if_pos rfl];refine⟨has_put_same h1.isMap (by trivial) _,fun v z hv=>?_⟩;cases hv;exact atKey_put_same h1.isMap (by trivial) _ _
 · show Maps.has _ _=(if j=i then some u else f j).isSome/\∀v z,(if j=i then some u else f j)=some v->_;rw[if_neg e];have hne:(Lit.int IntKind.i64 j)≠Lit.int IntKind.i64 i:=fun h=>e (by injection h)
   rw[has_put_other hne];refine⟨(hf j).1,fun v z hv=>?_⟩;rw[atKey_put_other hne];exact(hf j).2 v z hv
theorem Zbl.clear_(h:Zbl w b n f){t e:TypeId}(ht:prog.underlying t=some (.map 3 e))(ty:TypeId) :
 ∃w',(Builtin.clear_ #[t] ty #[.map (some b)]).run prog w=.ok (.tuple #[]) w'/\Zbl w' b 0 (fun _=>none)/\w.grownBy w' (some b):=by
 obtain⟨D,⟨es,c,hb,_⟩,_⟩:=h;refine⟨ChangeMaps.setBlock w b (.map #[] c),?_,⟨.map [],⟨#[],c,heap_setBlock_same hb _,⟨by simp,stamped_empty c,by simp⟩,ZZe _,rfl⟩,fun i=>⟨rfl,fun v z h=>by cases h⟩⟩,⟨rfl,rfl,rfl,by simp[ChangeMaps.setBlock],fun i _ hi=>heap_setBlock_other hb _ (fun e=>hi (by rw[e]))⟩⟩;simp[Builtin.clear_,run_underlying ht,MapKept.run_getObj_map hb,MapKept.run_setObj_map _ hb,Result.andThen];rfl
end
end Go.Proofs.YtlmkdmdbpopnhaaGreatDoor
namespace Go.Proofs.YtlmkdmdbpopnhaaGreatDoor
open Go.RowKit
def Zlb(w:World)(F:Nat->Prop)(v:Value)(l:List Int):Prop:=
 ∃g c cur,v=.slice (some ⟨g,0,none⟩) 256 c/\256<=c/\F g/\w.heap[g]?=some (.cells cur 5 (0,0))/\∀j,j<256->cur[j]?=some (.int .u8 (l[j]?.getD 0))
theorem Zlb.keep{w w':World}{F F':Nat->Prop}{v:Value}{l:List Int}(h:Zlb w F v l)(hF:∀k,F k->k<w.heap.size->F' k)(hk:∀g cur,F g->w.heap[g]?=some (.cells cur 5 (0,0))->w'.heap[g]?=w.heap[g]?):Zlb w' F' v l:=by
 obtain⟨g,c,cur,e,hc,hg,hb,hcell⟩:=h;exact⟨g,c,cur,e,hc,hF g hg (ZZa.1 hb).1,(hk g cur hg hb).trans hb,hcell⟩
theorem Zlb.rb{w:World}{F:Nat->Prop}{v:Value}{l:List Int}(h:Zlb w F v l)(hl:l.length=256/\Ze l):∃g c,v=.slice (some ⟨g,0,none⟩) 256 c/\256<=c/\RB w w.heap.size (some ⟨g,0,none⟩) 256 l:=by
 obtain⟨g,c,cur,e,hc,hg,hb,hcell⟩:=h;refine⟨g,c,e,hc,hl.1,hl.2,fun _=>⟨g,0,rfl,(ZZa.1 hb).1,fun j hj=>?_⟩⟩;rw[Nat.zero_add,cell_of_row w g j cur 5 (0,0) hb];exact hcell j hj
theorem Zlb.of_own{w:World}{F:Nat->Prop}{v:Value}{l:List Int}{base:Nat}(h:w.ownsRow base 5 1 v 256 (l.map (Value.int .u8)))(hF:∀k,base<=k->F k):Zlb w F v l:=by
 have hlen:l.length=256:=by simpa using h.1
 rcases h.2 with ⟨_,h0⟩|⟨g,cap,cur,hv,hbg,hg,hc,_,_,htake⟩
 · cases h0
 · refine⟨g,cap,cur,hv,hc,hF g hbg,hg,fun j hj=>?_⟩;have e1:(l.map (Value.int .u8))[j]?=some (.int .u8 (l[j]?.getD 0)):=by simp[ZZc (show j<l.length by omega)]
   rw[<-e1,<-htake,List.getElem?_take,if_pos (by omega)];simp
def CO(w:World)(F:Nat->Prop)(o:Option Value)(l:List Int):Prop:=match o with|none=>l=Zdg|some v=>Zlb w F v l
def ZaH(left:Int)(down:Bool)(n sb fb:Nat)(pv:Value)(wr:Nat):Nat->Value
 | 0=>.int .i64 left
 | 1=>.bool down
 | 2=>.int .i64 n
 | 3=>.map (some sb)
 | 4=>.map (some fb)
 | 5=>pv
 | _=>.int .i64 wr
structure Zd1(w:World)(F:Nat->Prop)(sb fb:Nat)(pv:Value)(n:Nat)(safe last:Nat->List Int)(pl:List Nat)(sN fN:Nat)(sf ff:Int->Option Value):Prop where
 safeM:Zbl w sb sN sf
 freshM:Zbl w fb fN ff
 ne:sb≠fb
 pend:w.ownsRow 0 3 1 pv pl.length ((pl.map Int.ofNat).map (Value.int .i64))
 safeC:∀i:Nat,i<n->CO w F (sf i) (safe i)
 freshC:∀i:Nat,i<n->∀v,ff i=some v->Zlb w F v (last i)
 Fs:F sb
 Ff:F fb
 Fp:∀g,pv.ownBlock=some g->F g
section
variable{w w':World}{F F':Nat->Prop}{b sb fb:Nat}{pv:Value}{n:Nat}{safe last:Nat->List Int}{pl:List Nat}{sN fN:Nat}{sf ff:Int->Option Value}
theorem Zfl{base e size m:Nat}{v:Value}{xs:List Value}(h:w.ownsRow base e size v m xs):∀g,v.ownBlock=some g->∃cur,w.heap[g]?=some (.cells cur e (0,0)):=by
 intro g hg;rcases h.2 with ⟨rfl,_⟩|⟨g',cap,cur,rfl,_,hb,_⟩
 · simp[Value.ownBlock]at hg
 · simp[Value.ownBlock]at hg;subst hg;exact⟨cur,hb⟩
theorem Ziw{base e size m:Nat}{v:Value}{xs:List Value}(h:w.ownsRow base e size v m xs)(hk:∀g,v.ownBlock=some g->w'.heap[g]?=w.heap[g]?):w'.ownsRow base e size v m xs:=by
 rcases h.2 with h'|⟨g,cap,cur,rfl,hg,hb,h3⟩
 · exact⟨h.1,.inl h'⟩
 · exact⟨h.1,.inr ⟨g,cap,cur,rfl,hg,(hk g (by simp[Value.ownBlock])).trans hb,h3⟩⟩
theorem CO.keep{o:Option Value}{l:List Int}(h:CO w F o l)(hF:∀k,F k->k<w.heap.size->F' k)(hk:∀g cur,F g->w.heap[g]?=some (.cells cur 5 (0,0))->w'.heap[g]?=w.heap[g]?):CO w' F' o l:=by
 rcases o with _|v
 · exact h
 · exact Zlb.keep h hF hk
theorem Zd1.keep(h:Zd1 w F sb fb pv n safe last pl sN fN sf ff)(hF:∀k,F k->k<w.heap.size->F' k)(hk:∀k,F k->k<w.heap.size->(∀c,w.heap[k]?≠some (.cells c 127 (0,0)))->w'.heap[k]?=w.heap[k]?):Zd1 w' F' sb fb pv n safe last pl sN fN sf ff:=by
 obtain⟨es1,c1,hb1⟩:=h.safeM.block;obtain⟨es2,c2,hb2⟩:=h.freshM.block;have hc:∀g cur,F g->w.heap[g]?=some (.cells cur 5 (0,0))->w'.heap[g]?=w.heap[g]?:=fun g cur hg hb=>hk g hg (ZZa.1 hb).1 (fun c e=>by rw[hb]at e;simp at e)
 refine⟨h.safeM.of_block (hk _ h.Fs h.safeM.lt (fun c e=>by rw[hb1]at e;cases e)),h.freshM.of_block (hk _ h.Ff h.freshM.lt (fun c e=>by rw[hb2]at e;cases e)),h.ne,Ziw h.pend (fun g hg=>?_),fun i hi=>(h.safeC i hi).keep hF hc,fun i hi v hv=>(h.freshC i hi v hv).keep hF hc,hF _ h.Fs h.safeM.lt,hF _ h.Ff h.freshM.lt,fun g hg=>?_⟩
 · obtain⟨cur,hb⟩:=Zfl h.pend g hg;exact hk g (h.Fp g hg) (ZZa.1 hb).1 (fun c e=>by rw[hb]at e;simp at e)
 · obtain⟨cur,hb⟩:=Zfl h.pend g hg;exact hF _ (h.Fp g hg) (ZZa.1 hb).1
theorem Zd1.pended(h:Zd1 w F sb fb pv n safe last pl sN fN sf ff){v':Value}{i:Nat}(hg:w.grownBy w' pv.ownBlock)(hp:w'.ownsRow 0 3 1 v' (pl++[i]).length (((pl++[i]).map Int.ofNat).map (Value.int .i64)))(hv:∀g,v'.ownBlock=some g->F g):Zd1 w' F sb fb v' n safe last (pl++[i]) sN fN sf ff:=by
 obtain⟨es1,c1,hb1⟩:=h.safeM.block;obtain⟨es2,c2,hb2⟩:=h.freshM.block
 have hother:∀k,k<w.heap.size->(∀cur,w.heap[k]?≠some (.cells cur 3 (0,0)))->w'.heap[k]?=w.heap[k]?:=fun k hk hne=>hg.block k hk (fun e=>by
  obtain⟨cur,hb⟩:=Zfl h.pend k e.symm
  exact hne cur hb)
 have hc:∀g cur,F g->w.heap[g]?=some (.cells cur 5 (0,0))->w'.heap[g]?=w.heap[g]?:=fun g cur _ hb=>hother g (ZZa.1 hb).1 (fun c e=>by rw[hb]at e;simp at e)
 exact⟨h.safeM.of_block (hother _ h.safeM.lt (fun c e=>by rw[hb1]at e;cases e)),h.freshM.of_block (hother _ h.freshM.lt (fun c e=>by rw[hb2]at e;cases e)),h.ne,hp,fun i hi=>(h.safeC i hi).keep (fun _ h _=>h) hc,fun i hi v hv=>(h.freshC i hi v hv).keep (fun _ h _=>h) hc,h.Fs,h.Ff,hv⟩
theorem ZlR{x:Nat}(hx:∃es c,w.heap[x]?=some (.map es c))(hg:w.grownBy w' (some x)):(∀k,k<w.heap.size->k≠x->w'.heap[k]?=w.heap[k]?)/\(∀g cur,F g->w.heap[g]?=some (.cells cur 5 (0,0))->w'.heap[g]?=w.heap[g]?)/\(∀(g:Nat) (cur:Array Value) (e:TypeId),w.heap[g]?=some (.cells cur e (0,0))->w'.heap[g]?=w.heap[g]?):=by
 obtain⟨es,c,hb⟩:=hx;have h1:∀k,k<w.heap.size->k≠x->w'.heap[k]?=w.heap[k]?:=fun k hk hne=>hg.block k hk (fun e=>hne (by injection e))
 have h3:∀(g:Nat) (cur:Array Value) (e:TypeId),w.heap[g]?=some (.cells cur e (0,0))->w'.heap[g]?=w.heap[g]?:=fun g cur e hg'=>h1 g (ZZa.1 hg').1 (fun e'=>by rw[e',hb]at hg';cases hg')
 exact⟨h1,fun g cur _ hg'=>h3 g cur _ hg',h3⟩
theorem Zd1.freshed(h:Zd1 w F sb fb pv n safe last pl sN fN sf ff)(hg:w.grownBy w' (some fb)){fN':Nat}{ff':Int->Option Value}(hm:Zbl w' fb fN' ff'){last':Nat->List Int}(hc':∀i:Nat,i<n->∀v,ff' i=some v->(ff i=some v/\last' i=last i)∨Zlb w F v (last' i)):Zd1 w' F sb fb pv n safe last' pl sN fN' sf ff':=by
 obtain⟨h1,hc,h3⟩:=ZlR (F:=F) h.freshM.block hg;refine⟨h.safeM.of_block (h1 _ h.safeM.lt h.ne),hm,h.ne,Ziw h.pend (fun g hg=>?_),fun i hi=>(h.safeC i hi).keep (fun _ h _=>h) hc,fun i hi v hv=>?_,h.Fs,h.Ff,h.Fp⟩
 · obtain⟨cur,hb⟩:=Zfl h.pend g hg;exact h3 g cur _ hb
 · rcases hc' i hi v hv with ⟨e1,e2⟩|e
   · rw[e2];exact(h.freshC i hi v e1).keep (fun _ h _=>h) hc
   · exact e.keep (fun _ h _=>h) hc
theorem Zd1.safed(h:Zd1 w F sb fb pv n safe last pl sN fN sf ff)(hg:w.grownBy w' (some sb)){sN':Nat}{sf':Int->Option Value}(hm:Zbl w' sb sN' sf'){safe':Nat->List Int}(hc':∀i:Nat,i<n->(sf' i=sf i/\safe' i=safe i)∨CO w F (sf' i) (safe' i)):Zd1 w' F sb fb pv n safe' last pl sN' fN sf' ff:=by
 obtain⟨h1,hc,h3⟩:=ZlR (F:=F) h.safeM.block hg;refine⟨hm,h.freshM.of_block (h1 _ h.freshM.lt (Ne.symm h.ne)),h.ne,Ziw h.pend (fun g hg=>?_),fun i hi=>?_,fun i hi v hv=>(h.freshC i hi v hv).keep (fun _ h _=>h) hc,h.Fs,h.Ff,h.Fp⟩
 · obtain⟨cur,hb⟩:=Zfl h.pend g hg;exact h3 g cur _ hb
 · rcases hc' i hi with ⟨e1,e2⟩|e
   · rw[e1,e2];exact(h.safeC i hi).keep (fun _ h _=>h) hc
   · exact e.keep (fun _ h _=>h) hc
theorem Zd1.emptied(h:Zd1 w F sb fb pv n safe last pl sN fN sf ff){v':Value}(hv:v'=.slice none 0 0/\pv=.slice none 0 0∨∃A m c,pv=.slice (some A) m c/\v'=.slice (some A) 0 c):Zd1 w F sb fb v' n safe last [] sN fN sf ff:=by
 rcases hv with ⟨rfl,rfl⟩|⟨A,m,c,rfl,rfl⟩
 · exact {h with pend:=⟨rfl,.inl ⟨rfl,rfl⟩⟩}
 · have hp:=h.pend;rcases hp.2 with ⟨e,_⟩|⟨g,cap,cur,e,hb,hg,hc,hm,hs,_⟩
   · cases e
   · cases e;exact {h with pend:=⟨rfl,.inr ⟨g,c,cur,rfl,hb,hg,Nat.zero_le _,hm,hs,rfl⟩⟩,Fp:=fun g' hg'=>h.Fp g' (by simpa[Value.ownBlock] using hg')}
end
def Zlc(left:Int)(arm:Option Nat):Prop:=(-9223372036854775808<=left/\left<=9223372036854775807)/\(left<0/\arm=none∨∃k:Nat,left=k/\arm=some k)
def DAt(w:World)(F:Nat->Prop)(p:Addr)(S:DS):Prop:=
 ∃b sb fb left pv sN fN sf ff,p=⟨b,0,none⟩/\w.rowIs b 127 7 (ZaH left S.down S.n sb fb pv S.writes)/\Zd1 w F sb fb pv S.n S.safe S.last S.pend sN fN sf ff/\Zlc left S.arm/\S.Ok/\(∀i:Nat,i<S.n->((ff i).isSome=true↔i∈S.pend))/\(sN+fN<=S.writes/\S.pend.length<=fN/\S.writes<=9223372036854775807)/\F b/\∀k,F k->k<w.heap.size
theorem Znc{w w':World}{k:Nat}(hlt:k<w.heap.size)(e:w'.heap[k]?=w.heap[k]?):k<w'.heap.size:=by
 rcases Nat.lt_or_ge k w'.heap.size with h|h
 · exact h
 · rw[Array.getElem?_eq_none h,Array.getElem?_eq_getElem hlt]at e;cases e
theorem DAt.keep{w w':World}{F:Nat->Prop}{p:Addr}{S:DS}(h:DAt w F p S)(hk:∀k,F k->w'.heap[k]?=w.heap[k]?):DAt w' F p S:=by
 obtain⟨b,sb,fb,left,pv,sN,fN,sf,ff,rfl,hrow,hrest,harm,hok,hdom,hcnt,hFb,hlt⟩:=h;exact⟨b,sb,fb,left,pv,sN,fN,sf,ff,rfl,hrow.of_block (hk _ hFb),hrest.keep (fun _ h _=>h) (fun k hk' _ _=>hk k hk'),harm,hok,hdom,hcnt,hFb,fun k hk'=>Znc (hlt k hk') (hk k hk')⟩
def ZaD(F:Nat->Prop)(w w':World)(p:Addr)(S':DS):Prop:=∃F':Nat->Prop,DAt w' F' p S'/\Zf F w w'/\∀k,F' k->F k∨w.heap.size<=k
def FN(F:Nat->Prop)(w:World):Nat->Prop:=fun k=>F k∨w.heap.size<=k
theorem Zf.grow{F:Nat->Prop}{w0 w w':World}{row:Option Nat}(h:Zf F w0 w)(hg:w.grownBy w' row)(hr:∀x,row=some x->FN F w0 x):Zf F w0 w':=
 ⟨hg.os.trans h.os,hg.tape.trans h.tape,hg.output.trans h.output,ZZf h.size hg.size,fun k hk hF=>(hg.block k (ZZd hk h.size) (fun e=>by
  rcases hr k e.symm with h1|h1
  · exact hF h1
  · omega)).trans (h.block k hk hF)⟩
theorem ZU(w:World)(b o:Nat)(v:Value):w.grownBy (w.setCell ⟨b,o,none⟩ v) (some b):=
 ⟨rfl,rfl,rfl,by simp,fun k _ hk=>Below.heap_setCell w ⟨b,o,none⟩ v k (fun e=>hk (by rw[e]))⟩
theorem Zcl{w w':World}(h:Below w.heap.size w w'):w.grownBy w' none:=⟨h.os,h.tape,h.output,h.size,fun k hk _=>h.block k hk⟩
theorem ZaD.mk'{w0 w:World}{F:Nat->Prop}{b sb fb:Nat}{left:Int}{pv:Value}{sN fN:Nat}{sf ff:Int->Option Value}{S:DS}(hrow:w.rowIs b 127 7 (ZaH left S.down S.n sb fb pv S.writes))(hrest:Zd1 w (FN F w0) sb fb pv S.n S.safe S.last S.pend sN fN sf ff)(harm:Zlc left S.arm)(hok:S.Ok)
 (hdom:∀i:Nat,i<S.n->((ff i).isSome=true↔i∈S.pend)) (hcnt:sN+fN<=S.writes/\S.pend.length<=fN/\S.writes<=9223372036854775807) (hb:FN F w0 b) (ht:Zf F w0 w):ZaD F w0 w ⟨b,0,none⟩ S:=
 ⟨fun k=>FN F w0 k/\k<w.heap.size,⟨b,sb,fb,left,pv,sN,fN,sf,ff,rfl,hrow,hrest.keep (fun k h1 h2=>⟨h1,h2⟩) (fun _ _ _ _=>rfl),harm,hok,hdom,hcnt,⟨hb,hrow.lt⟩,fun k hk=>hk.2⟩,ht,fun k hk=>hk.1⟩
section
variable{w:World}{b:Nat}
theorem ZeP{n:Int}(h2:w.cell? ⟨b,2,none⟩=some (.int .i64 n))(hn:0<n):Calls prog 79 #[.pointer (some ⟨b,0,none⟩)] w fun e w'=>e=.returned (.bool true)/\w=w':=by
 have k:decide (0<n)=true:=by simpa using hn
 go_enter func79,ntmps79;go_wp2;go_ret;exact⟨rfl,rfl⟩
theorem Zfm{n:Int}(h1:w.cell? ⟨b,1,none⟩=some (.bool true))(h2:w.cell? ⟨b,2,none⟩=some (.int .i64 n))(hn:0<n):Calls prog 139 #[.pointer (some ⟨b,0,none⟩)] w fun e w'=>e=.returned (.int .i64 5)/\w=w':=by
 go_enter func139,ntmps139;go_wp2_with fail;refine(ZeP h2 hn).mono ?_;rintro e w1⟨rfl,rfl⟩;go_wp2;go_ret;exact⟨rfl,rfl⟩
theorem ZbI{n:Int}(h1:w.cell? ⟨b,1,none⟩=some (.bool false))(h2:w.cell? ⟨b,2,none⟩=some (.int .i64 n))(hn:0<n):Calls prog 139 #[.pointer (some ⟨b,0,none⟩)] w fun e w'=>e=.returned (.int .i64 0)/\w=w':=by
 go_enter func139,ntmps139;go_wp2_with fail;refine(ZeP h2 hn).mono ?_;rintro e w1⟨rfl,rfl⟩;go_wp2;go_ret;exact⟨rfl,rfl⟩
theorem ZaK{n:Int}(i:Int)(h2:w.cell? ⟨b,2,none⟩=some (.int .i64 n)):Calls prog 140 #[.pointer (some ⟨b,0,none⟩),.int .i64 i] w fun e w'=>e=.returned (.bool (decide (0<=i/\i<n)))/\w=w':=by
 by_cases h0:0<=i
 · have k0:decide (0<=i)=true:=by simpa using h0
   have e:decide (0<=i/\i<n)=decide (i<n):=by simp[h0]
   rw[e];generalize hq:decide (i<n)=q;clear h0 e;cases q
   · go_enter func140,ntmps140;go_wp2;go_ret;exact⟨rfl,rfl⟩
   · go_enter func140,ntmps140;go_wp2;go_ret;exact⟨rfl,rfl⟩
 · have k0:decide (0<=i)=false:=by simpa using h0
   have e:decide (0<=i/\i<n)=false:=by simp[h0]
   rw[e];clear h0 e;go_enter func140,ntmps140;go_wp2;go_ret;exact⟨rfl,rfl⟩
theorem ZoQ(h0:w.cell? ⟨b,0,none⟩=some (.int .i64 0))(h1:w.cell? ⟨b,1,none⟩=some (.bool false))(f1:w.frozen? ⟨b,1,none⟩=false) :
 Calls prog 197 #[.pointer (some ⟨b,0,none⟩)] w fun e w'=>e=.returned (.bool true)/\w'=w.setCell ⟨b,1,none⟩ (.bool true):=by
 go_enter func197,ntmps197;go_wp2;go_ret;exact⟨rfl,rfl⟩
theorem Znd{k:Nat}(hk:(k:Int)+1<=9223372036854775807)(h0:w.cell? ⟨b,0,none⟩=some (.int .i64 ((k:Int)+1)))(h1:w.cell? ⟨b,1,none⟩=some (.bool false))(f0:w.frozen? ⟨b,0,none⟩=false) :
 Calls prog 197 #[.pointer (some ⟨b,0,none⟩)] w fun e w'=>e=.returned (.bool false)/\w'=w.setCell ⟨b,0,none⟩ (.int .i64 (k:Int)):=by
 have e0:((k:Int)+1 == 0)=false:=by simp;omega
 have e1:decide ((0:Int)<(k:Int)+1)=true:=by simp
 have e2:wrap64 ((k:Int)+1-1)=k:=by unfold wrap64;omega
 go_enter func197,ntmps197;go_wp2;go_ret;exact⟨rfl,rfl⟩
theorem Zne{left:Int}(hl:left<0)(h0:w.cell? ⟨b,0,none⟩=some (.int .i64 left))(h1:w.cell? ⟨b,1,none⟩=some (.bool false)) :
 Calls prog 197 #[.pointer (some ⟨b,0,none⟩)] w fun e w'=>e=.returned (.bool false)/\w'=w:=by
 have e0:(left == 0)=false:=by simp;omega
 have e1:decide ((0:Int)<left)=false:=by simp;omega
 go_enter func197,ntmps197;go_wp2;go_ret;exact⟨rfl,rfl⟩
theorem ZpY{v0 v1:Value}(h0:w.cell? ⟨b,0,none⟩=some v0)(h1:w.cell? ⟨b,1,none⟩=some v1)(f0:w.frozen? ⟨b,0,none⟩=false)(f1:w.frozen? ⟨b,1,none⟩=false) :
 Calls prog 82 #[.pointer (some ⟨b,0,none⟩)] w fun e w'=>e=.returned (.tuple #[])/\w'=(w.setCell ⟨b,0,none⟩ (.int .i64 (-1))).setCell ⟨b,1,none⟩ (.bool false):=by
 go_enter func82,ntmps82;go_wp2
 go_end0
 exact⟨rfl,rfl⟩
end
theorem DAt.parts{w:World}{F:Nat->Prop}{p:Addr}{S:DS}(h:DAt w F p S):∃b sb fb left pv sN fN sf ff,p=⟨b,0,none⟩/\w.rowIs b 127 7 (ZaH left S.down S.n sb fb pv S.writes)/\Zd1 w F sb fb pv S.n S.safe S.last S.pend sN fN sf ff/\Zlc left S.arm/\S.Ok/\(∀i:Nat,i<S.n->((ff i).isSome=true↔i∈S.pend))/\(sN+fN<=S.writes/\S.pend.length<=fN/\S.writes<=9223372036854775807)/\F b/\(∀k,F k->k<w.heap.size)/\
 w.cell? ⟨b,0,none⟩=some (.int .i64 left)/\w.cell? ⟨b,1,none⟩=some (.bool S.down)/\w.cell? ⟨b,2,none⟩=some (.int .i64 S.n)/\w.cell? ⟨b,3,none⟩=some (.map (some sb))/\w.cell? ⟨b,4,none⟩=some (.map (some fb))/\w.cell? ⟨b,5,none⟩=some pv/\w.cell? ⟨b,6,none⟩=some (.int .i64 S.writes):=by
 obtain⟨b,sb,fb,left,pv,sN,fN,sf,ff,e,hrow,rest⟩:=h;obtain⟨h1,h2,h3,h4,h5,h6,h7⟩:=rest;exact⟨b,sb,fb,left,pv,sN,fN,sf,ff,e,hrow,h1,h2,h3,h4,h5,h6,h7,hrow.cell (i:=0) (by decide),hrow.cell (i:=1) (by decide),hrow.cell (i:=2) (by decide),hrow.cell (i:=3) (by decide),hrow.cell (i:=4) (by decide),hrow.cell (i:=5) (by decide),hrow.cell (i:=6) (by decide)⟩
theorem ZjY(w:World)(F:Nat->Prop)(p:Addr)(S:DS)(h:DAt w F p S):Calls prog 148 #[.pointer (some p)] w fun e w'=>e=.returned (.int .i64 (S.n:Int))/\w'=w:=by
 obtain⟨b,sb,fb,left,pv,sN,fN,sf,ff,rfl,hrow,hrest,harm,hok,hdom,hcnt,hFb,hlt,c0,c1,c2,c3,c4,c5,c6⟩:=h.parts;have hn:(0:Int)<(S.n:Int):=by have:=hok.size;omega
 go_enter func148,ntmps148;go_wp2_with fail;refine(ZeP c2 hn).mono ?_;rintro e w1⟨rfl,rfl⟩;go_wp2;go_ret;exact⟨rfl,rfl⟩
theorem ZpZ(w:World)(F:Nat->Prop)(p:Addr)(S:DS)(h:DAt w F p S):Calls prog 148 #[.pointer (some p)] w fun e w'=>e=.returned (.int .i64 (S.n:Int))/\Below w.heap.size w w':=
 (ZjY w F p S h).mono fun e w' ⟨h1,h2⟩=>⟨h1,h2 ▸ Below.refl _ _⟩
theorem ZdK(left left':Int)(down:Bool)(n sb fb:Nat)(pv:Value)(wr:Nat):∀i,i<7->(fun j=>if j=0 then Value.int .i64 left' else ZaH left down n sb fb pv wr j) i=ZaH left' down n sb fb pv wr i:=by
 intro i hi
 rcases(show i=0∨i=1∨i=2∨i=3∨i=4∨i=5∨i=6 by omega)with rfl|rfl|rfl|rfl|rfl|rfl|rfl <;> rfl
theorem ZfE(left:Int)(down down':Bool)(n sb fb:Nat)(pv:Value)(wr:Nat):∀i,i<7->(fun j=>if j=1 then Value.bool down' else ZaH left down n sb fb pv wr j) i=ZaH left down' n sb fb pv wr i:=by
 intro i hi
 rcases(show i=0∨i=1∨i=2∨i=3∨i=4∨i=5∨i=6 by omega)with rfl|rfl|rfl|rfl|rfl|rfl|rfl <;> rfl
theorem ZfF(left:Int)(down:Bool)(n sb fb:Nat)(pv pv':Value)(wr:Nat):∀i,i<7->(fun j=>if j=5 then pv' else ZaH left down n sb fb pv wr j) i=ZaH left down n sb fb pv' wr i:=by
 intro i hi
 rcases(show i=0∨i=1∨i=2∨i=3∨i=4∨i=5∨i=6 by omega)with rfl|rfl|rfl|rfl|rfl|rfl|rfl <;> rfl
theorem ZjZ(left:Int)(down:Bool)(n sb fb:Nat)(pv:Value)(wr wr':Nat):∀i,i<7->(fun j=>if j=6 then Value.int .i64 wr' else ZaH left down n sb fb pv wr j) i=ZaH left down n sb fb pv wr' i:=by
 intro i hi
 rcases(show i=0∨i=1∨i=2∨i=3∨i=4∨i=5∨i=6 by omega)with rfl|rfl|rfl|rfl|rfl|rfl|rfl <;> rfl
theorem Zd1.setCell{w:World}{F:Nat->Prop}{b sb fb:Nat}{pv:Value}{n:Nat}{safe last:Nat->List Int}{pl:List Nat}{sN fN:Nat}{sf ff:Int->Option Value}{f:Nat->Value}(h:Zd1 w F sb fb pv n safe last pl sN fN sf ff)(hrow:w.rowIs b 127 7 f)(o:Nat)(v:Value):Zd1 (w.setCell ⟨b,o,none⟩ v) F sb fb pv n safe last pl sN fN sf ff:=
 h.keep (fun _ h _=>h) (fun k _ hk hne=>(ZU w b o v).block k hk (fun e=>by
  obtain⟨c,hb,_⟩:=hrow
  have:k=b:=by injection e
  subst this
  exact hne c hb))
theorem Zd1.below{w w':World}{F:Nat->Prop}{sb fb:Nat}{pv:Value}{n:Nat}{safe last:Nat->List Int}{pl:List Nat}{sN fN:Nat}{sf ff:Int->Option Value}(h:Zd1 w F sb fb pv n safe last pl sN fN sf ff)(hb:Below w.heap.size w w'):Zd1 w' F sb fb pv n safe last pl sN fN sf ff:=
 h.keep (fun _ h _=>h) (fun k _ hk _=>hb.block k hk)
theorem Zq4(i:Int)(w:World)(F:Nat->Prop)(p:Addr)(S:DS)(h:DAt w F p S)(hi : -9223372036854775808<=i/\i<=9223372036854775807):Calls prog 32 #[.pointer (some p),.int .i64 i] w fun e w'=>e=.returned (.tuple #[])/\ZaD F w w' p (S.fuse i):=by
 obtain⟨b,sb,fb,left,pv,sN,fN,sf,ff,rfl,hrow,hrest,harm,hok,hdom,hcnt,hFb,hlt,c0,c1,c2,c3,c4,c5,c6⟩:=h.parts;have hn:(0:Int)<(S.n:Int):=by have:=hok.size;omega
 have f0:=hrow.frozen 0
 have HE:Hid (ZaD F w (w.setCell ⟨b,0,none⟩ (.int .i64 i)) ⟨b,0,none⟩ (S.fuse i)):=hid (by
  refine ZaD.mk' ((hrow.set 0 (.int .i64 i)).congr (ZdK _ _ _ _ _ _ _ _)) ((hrest.keep (fun _ h _=>.inl h) (fun _ _ _ _=>rfl)).setCell hrow 0 _) ⟨hi,?_⟩ (DS.fuse_ok hok i) hdom hcnt (.inl hFb) ((Zf.refl F w).grow (ZU w b 0 _) (fun x e=>.inl (by injection e with e;rw[<-e];exact hFb)));unfold DS.fuse;by_cases h0:i<0
  · exact .inl ⟨h0,if_pos h0⟩
  · exact .inr ⟨i.toNat,by omega,if_neg h0⟩)
 clear hrest hrow hdom h;go_enter func32,ntmps32;go_wp2_with fail;refine(ZeP c2 hn).mono ?_;rintro e w1⟨rfl,rfl⟩;go_wp2
 go_end0
 exact⟨rfl,HE.out⟩
theorem Zrt(n:Int)(w:World)(h:¬(3<=n/\n<=65536)):Calls prog 18 #[.int .i64 n] w fun e w'=>e=.returned (.tuple #[.pointer none,.int .i64 1])/\w=w':=by
 by_cases h1:n<3
 · have k1:decide (n<3)=true:=by simpa using h1
   clear h h1;go_enter func18,ntmps18;go_wp2;go_ret2;exact⟨rfl,rfl⟩
 · have k1:decide (n<3)=false:=by simpa using h1
   have k2:decide ((65536:Int)<n)=true:=by simp;omega
   clear h h1;go_enter func18,ntmps18;go_wp2;go_ret2;exact⟨rfl,rfl⟩
theorem Zru(n:Nat)(w:World)(h1:3<=n)(h2:n<=65536):ZaD (fun _=>False) w ((((w.alloc (.map #[] 0)).alloc (.map #[] 0))).alloc (.cells #[.int .i64 (-1),.bool false,.int .i64 (n:Int),.map (some w.heap.size),.map (some (w.heap.size+1)),.slice none 0 0,.int .i64 0] 127)) ⟨w.heap.size+2,0,none⟩ (DS.new n):=by
 have s0:(w.alloc (.map #[] 0)).heap.size=w.heap.size+1:=by simp
 have s1:((w.alloc (.map #[] 0)).alloc (.map #[] 0)).heap.size=w.heap.size+2:=by simp
 generalize hw1:w.alloc (.map #[] 0)=w1 at *;generalize hw2:w1.alloc (.map #[] 0)=w2 at *;have m1:Zbl w1 w.heap.size 0 (fun _=>none):=by rw[<-hw1];exact Zbl.made w
 have m1':Zbl w2 w.heap.size 0 (fun _=>none):=m1.of_block (by rw[<-hw2];exact heap_alloc_old _ _ (by omega));have m2:Zbl w2 (w.heap.size+1) 0 (fun _=>none):=by rw[<-hw2,<-s0];exact Zbl.made w1
 have b01:Below w.heap.size w w2:=by
  rw[<-hw2,<-hw1];exact((Below.refl _ _).alloc (ZZe _) _).alloc (by simp) _
 have b02:=b01.alloc (o:=.cells #[.int .i64 (-1),.bool false,.int .i64 (n:Int),.map (some w.heap.size),.map (some (w.heap.size+1)),.slice none 0 0,.int .i64 0] 127) (by omega);rw[<-s1]
 have hrest:Zd1 w2 (FN (fun _=>False) w) w.heap.size (w.heap.size+1) (.slice none 0 0) (DS.new n).n (DS.new n).safe (DS.new n).last (DS.new n).pend 0 0 (fun _=>none) (fun _=>none):=
  ⟨m1',m2,by omega,⟨rfl,.inl ⟨rfl,rfl⟩⟩,fun i _=>rfl,(fun i _ v hv=>by cases hv),.inr (ZZe _),.inr (by omega),fun g hg=>by cases hg⟩
 refine ZaD.mk' (left:=-1) ?_ (hrest.keep (fun _ h _=>h) (fun k _ hk _=>heap_alloc_old _ _ hk)) ⟨by omega,.inl ⟨by omega,rfl⟩⟩ (DS.new_ok ⟨h1,h2⟩) (fun i _=>by simp[DS.new]) ⟨ZZe _,ZZe _,Nat.zero_le _⟩ (.inr (by omega)) (Zf.of_below b02);refine⟨_,heap_alloc_new _ _,rfl,fun i hi=>?_⟩
 rcases(show i=0∨i=1∨i=2∨i=3∨i=4∨i=5∨i=6 by omega)with rfl|rfl|rfl|rfl|rfl|rfl|rfl <;> rfl
theorem Zq5(n:Nat)(w:World)(h1:3<=n)(h2:n<=65536):Calls prog 18 #[.int .i64 n] w fun e w'=>∃p:Addr,e=.returned (.tuple #[.pointer (some p),.int .i64 0])/\ZaD (fun _=>False) w w' p (DS.new n):=by
 have hmm:=@run_makeMap prog;have k1:decide ((n:Int)<3)=false:=by simp;omega
 have k2:decide ((65536:Int)<(n:Int))=false:=by simp;omega
 have HE:=hid (Zru n w h1 h2);go_enter func18,ntmps18;go_wp2;go_ret2;exact⟨_,rfl,HE.out⟩
end Go.Proofs.YtlmkdmdbpopnhaaGreatDoor
