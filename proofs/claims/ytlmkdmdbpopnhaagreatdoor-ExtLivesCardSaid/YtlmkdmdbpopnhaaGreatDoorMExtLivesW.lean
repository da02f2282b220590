/-
  Walk of ExtLives: a store of 1300 pages does what a table of keys does. Condition: the table that crc.Step reads holds what the program's text lays in it.
-/
import Derived.Test.YtlmkdmdbpopnhaaGreatDoorG49
set_option maxHeartbeats 3200000
set_option maxRecDepth 100000
set_option linter.unusedVariables false
open Go.Proofs.Tryz
open Go.Lib (hid)
namespace Go.Proofs.YtlmkdmdbpopnhaaGreatDoor
open Go.RowKit
abbrev Dos12E.R(w:World)(B:Nat)(A:Option Addr)(n:Nat)(ds:List Ziq):Prop:=Zdj w B A n ds
section
variable{w w':World}{Y:Nat->Prop}{base:Nat}{A:Option Addr}{n c:Nat}
theorem ZbL.pairsE{l:List KV}(h:ZbL Zcx 65 2 w Y base (.slice A n c) l):n=l.length/\n<=c/\Zaa w w.heap.size A n l:=by
 obtain⟨vs,h1,h2⟩:=h.row;rcases h1.2 with ⟨e,h0⟩|⟨g,cap,cur,e,hb,hg,hc,_,_,htake⟩
 · cases e;exact⟨h0.symm,ZZe _,h0,fun hn=>absurd hn (by omega)⟩
 · cases e;refine⟨rfl,hc,rfl,fun hn=>⟨g,0,rfl,(ZZa.1 hg).1,fun i y hy=>?_⟩⟩;have hi:=(ZZb.1 hy).1;obtain⟨ka,kn,kc,va,vn,vc,e3,a1,a2,b1,b2⟩:=h2 i y hy
   have g1:vs[i*2]?=some (.slice ka kn kc):=by
    have:((vs.drop (i*2)).take 2)[0]?=some (.slice ka kn kc):=by rw[e3];rfl
    rw[List.getElem?_take,if_pos (by decide),List.getElem?_drop]at this;simpa using this
   have g2:vs[i*2+1]?=some (.slice va vn vc):=by
    have:((vs.drop (i*2)).take 2)[1]?=some (.slice va vn vc):=by rw[e3];rfl
    rw[List.getElem?_take,if_pos (by decide),List.getElem?_drop]at this;simpa using this
   refine⟨ka,kn,kc,va,vn,vc,?_,?_,a1.1,a2,b1.1,b2⟩
   · rw[Nat.zero_add,cell_of_row w g (i*2) cur _ (0,0) hg,<-g1,<-htake,List.getElem?_take,if_pos (by omega)];simp
   · rw[Nat.zero_add,cell_of_row w g (i*2+1) cur _ (0,0) hg,<-g2,<-htake,List.getElem?_take,if_pos (by omega)];simp
end
section
variable{D:World->(Nat->Prop)->Addr->DS->Prop}
theorem Zix(api:Zb D)(w:World){A:Option Addr}{n k:Nat}{ds:List Ziq}(hr:Zdj w w.heap.size A n ds)(hc:n<=k/\n<=maxLen)(ht:Tab w/\1<w.heap.size) :
 Calls prog 3 #[.slice A n k] w fun e w'=>e=.returned (.bool true)/\RowKit.Below w.heap.size w w':=by
 have HFR:=hid (ZgD api w ht (P:=1300) (by decide));obtain⟨hKp,hSn,hSw⟩:=Kp.first (n:=2*1300+1) (by decide);obtain⟨S,hS⟩:∃S,S=S12 (2*1300+1):=⟨_,rfl⟩
 rw[<-hS]at HFR hKp hSn hSw;have hP:S.P=((1300:Nat):Int):=by unfold DS.P;rw[hSn];decide
 have hlen:=hKp.len;clear hS;have HAW:=hid (show ∀W,RowKit.Below w.heap.size w W->Calls prog 11 #[] W fun e w'=>e=.returned (.bool true)/\RowKit.Below W.heap.size W w' from fun W hb=>ZjP api W ⟨ht.1.below hb ht.2,ZZd ht.2 hb.size⟩);have HR:=hid (ZZg hr hc);clear hr hc;go_enter func3,ntmps3;go_wp2_with fail;refine HFR.out.mono ?_;rintro e w1⟨r,b,q,F,p,rfl,hpg,hb1,hO⟩;have HF:=hid (ZoJ k (HR.out.1.below hb1) HR.out.2.2 hb1.size);have HPG:=hid (ZZg hpg (ZZg hb1 hO));clear hpg hb1 hO HFR;go_wp2_with fail;refine HF.out.mono ?_;rintro e w2⟨rfl,hb2⟩;obtain⟨hpg,hb1,hO⟩:=HPG.out;have hb02:=hb1.trans (hb2.mono hb1.size)
 cases hfew:Zq7 ds with
 | false=>
  have HA:=hid (HAW.out w2 hb02);have HB:=hid hb02;clear hpg hb1 hO HPG hb2 hb02 hKp hSn hSw hP hlen;go_wp2_with fail;refine HA.out.mono ?_;rintro e w3⟨rfl,hb3⟩;have HE:=hid (HB.out.trans (hb3.mono HB.out.size));clear hb3;go_wp2_with fail;go_ret;exact⟨rfl,HE.out⟩
 | true=>
  have hn:n<=150:=by rw[<-HR.out.1.1];exact(ZqV hfew).1
  have htab:Zdf w2 F:=⟨ht.1.below hb02 ht.2,ZZd ht.2 hb02.size,fun hf=>by have:=hO _ (.inl hf);omega⟩
  have HPL:=hid (ZmZ (k:=k) (B:=w.heap.size) api (hpg.below api hb2) htab hlen (fun hf=>by have:=hO _ hf;omega) hKp hP (by decide) (by omega) (by omega) hO hb02.size ht.2 (HR.out.1.below hb02) hn);have HB:=hid hb02;clear hpg hb1 hO HPG hb2 hb02 hKp hSn hSw hP hlen htab;go_wp2_with fail;refine HPL.out.mono ?_;rintro e w3⟨st,x,y,rfl,hJ⟩;obtain⟨F3,O3,p3,S3,q3,seq3,b3,L3,T,U,hE,t1,t2,t3,t4⟩:=hJ;have HAL:=hid (ZO.all api hE.top hE.now);have HE:=hid hE;have HBB:=hid (HB.out.trans hE.bel);have HTL:=hid t1;clear hE t1 t2 t3 t4 HPL;go_wp2_with fail;refine HAL.out.mono ?_;rintro e w4⟨v,Y,base,rfl,hg,_,_,hb4,_⟩;obtain⟨A4,c4,rfl,_⟩:=hg.shape;obtain⟨_,hc4,hr4⟩:=hg.pairsE;have hE4:=HE.out.below api hb4;obtain⟨A5,n5,c5,x5,_,hsp⟩:=hE4.tab;have q0:w4.cell? ⟨x,0,none⟩=some (.slice A5 n5 c5):=by rw[cell_of_row w4 x 0 _ _ (0,0) x5];rfl
  have hTl:=HTL.out;have hn5:T.length=n5:=hsp.2.1;have hml:(T.map kvT).length=T.length:=List.length_map _;have HPP:=Zk4 (k:=c4) (k':=c5) hr4 hsp.pairs (ZZe _) (ZZe _) (by unfold maxLen;omega) (by unfold maxLen;omega);rw[show decide (T.map kvT=T.map ZoS)=true from decide_eq_true rfl,hml]at HPP;have HPP:=hid HPP;have HB4:=hid (HBB.out.trans (hb4.mono HBB.out.size));clear hg hr4 hE4 x5 hsp hb4 hc4 hTl hn5 hml HAL HE HBB HTL;go_wp2_with fail;refine HPP.out.mono ?_;rintro e w5⟨rfl,hb5⟩;have hb05:=HB4.out.trans (hb5.mono HB4.out.size);have HA:=hid (HAW.out w5 hb05);have HB5:=hid hb05;clear hb5 hb05 HB4 HPP;go_wp2_with fail;refine HA.out.mono ?_;rintro e w6⟨rfl,hb6⟩;have HE:=hid (HB5.out.trans (hb6.mono HB5.out.size));clear hb6;go_wp2_with fail;go_ret;exact⟨rfl,HE.out⟩
end
end Go.Proofs.YtlmkdmdbpopnhaaGreatDoor
