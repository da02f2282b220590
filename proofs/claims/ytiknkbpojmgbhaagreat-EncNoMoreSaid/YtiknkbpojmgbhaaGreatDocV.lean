/- DocT, DocU, DocV. Conditions: in each theorem. -/
import Derived.Test.YtiknkbpojmgbhaaGreatDocS
set_option maxHeartbeats 12800000
set_option maxRecDepth 100000
set_option linter.unusedVariables false
open Go.Proofs.Tryz
open Go.Lib (hid)
namespace Go.Proofs.YtiknkbpojmgbhaaGreat
open Go.RowKit Go.Maps
theorem Zp1(K:List Int):dlK (K,[])=none:=by
 unfold dlK numsR;rw[if_neg (fun h=>absurd h.2 (show ¬(unpackR ([]:List Int) ((4:Nat):Int)).2=0 by decide))];rfl
theorem Zp2(K:List Int):dcK (K,[])=none:=by
 unfold dcK numsR;rw[if_neg (fun h=>absurd h.2 (show ¬(unpackR ([]:List Int) ((4:Nat):Int)).2=0 by decide))];rfl
theorem ZoN(i:Int):splitK (Zi 68 [i])=([Zn i],68,true):=by
 have hh:Zn (Zn i)=Zn i:=by unfold Zn;omega
 have e:Zi 68 [i]=Zi 68 [Zn i]:=by
  show ZdI 68 [Zn i]=ZdI 68 [Zn (Zn i)];rw[hh]
 unfold splitK
 rw[e,Zdu (fun x hx=>by
  simp only[List.mem_cons,List.not_mem_nil,or_false]at hx;subst hx
  exact ZcK _) (by simp)]
theorem Zm3{i:Int}{b:List Int}{d:Dc}(h:dcK (Zi 68 [i],b)=some d):d.i=Zn i:=by
 unfold dcK numsR at h;simp only[ZoN]at h
 split at h
 · have h:=Option.some.inj (show some (ZqW _)=some d from h);subst h;rfl
 · cases h
theorem Ze0{S:VS}{i:Int}(h:¬ZaQ i=true):docGet S i=none:=by
 unfold docGet;rw[if_neg h]
def Zm4(w w':World)(r:Ending)(o:Option Dl):Prop:=r=.returned (.tuple #[dlW o,.bool o.isSome])/\(∀y,o=some y->ZaE y)/\Below w.heap.size w w'
section
variable{w w':World}{X:Nat->Prop}{x p q r N:Nat}{a:TL}{S:VS}
theorem ZpQ(h:ZP w X x p q r a S N)(hN:N<=1000000000){A:Option Addr}{n k B:Nat}{l:List Int}(hr:RB w B A n l)(hB:B<=w.heap.size) :
 Calls prog 127 #[.pointer (some ⟨x,0,none⟩),.slice A n k] w fun e w'=>∃u,e=.returned (.tuple #[u,.bool (S.now (tx l)).isSome])/\SV w' (fun k=>k<w.heap.size) u ((S.now (tx l)).getD [])/\RowKit.Below w.heap.size w w':=by
 obtain⟨b,d,h1,h2,h3,h4⟩:=h
 have:=ZbA (k:=k) h1 (Nat.le_trans h3 (by omega)) hr hB
 rw[h2.now]at this;exact this
theorem Zm5(h:ZP w X x p q r a S N)(hN:N<=1000000000)(i j:Int)(hi : -9223372036854775808<=i/\i<=9223372036854775807)(hj : -9223372036854775808<=j/\j<=9223372036854775807) :
 Calls prog 202 #[.pointer (some ⟨x,0,none⟩),.int .i64 i,.int .i64 j] w fun e w'=>Zm4 w w' e (lineAt S i j):=by
 obtain⟨w1,hw1⟩:∃w1,w1=w.alloc (.cells #[.int .i64 0,.int .i64 0,.int .i64 0,.int .i64 0] 50):=⟨_,rfl⟩
 have hb1:Below w.heap.size w w1:=by rw[hw1];exact(Below.refl _ _).alloc (Nat.le_refl _) _
 have hs1:w1.heap.size=w.heap.size+1:=by rw[hw1];simp
 have g1:w1.heap[w.heap.size]?=some (.cells #[.int .i64 0,.int .i64 0,.int .i64 0,.int .i64 0] 50 (0,0)):=by rw[hw1];exact heap_alloc_new w _
 obtain⟨w2,hw2⟩:∃w2,w2=w1.alloc (.cells #[.int .i64 i,.int .i64 j] 3):=⟨_,rfl⟩
 have hb2:Below w1.heap.size w1 w2:=by rw[hw2];exact(Below.refl _ _).alloc (Nat.le_refl _) _
 have hb02:=hb1.trans (hb2.mono hb1.size);have hrow:ZR w2 (w.heap.size+1) [i,j]:=by rw[hw2,<-hs1];exact ZR.a' (l:=[i,j]) w1 3
 have HK:=hid (ZhA 76 [i,j] 2 9 (by omega) (fun z hz=>by
  simp only[List.mem_cons,List.not_mem_nil,or_false]at hz;rcases hz with rfl|rfl
  · exact hi
  · exact hj) rfl (by omega) rfl w2 (w.heap.size+1) hrow)
 have HC:=hid (show ∀W,Below w2.heap.size w2 W->W.heap[w.heap.size]?=some (.cells #[.int .i64 0,.int .i64 0,.int .i64 0,.int .i64 0] 50 (0,0))/\Below w.heap.size w W/\ZP W X x p q r a S N from fun W hW=>
  ⟨(hW.block _ (by have:=hb2.size;omega)).trans ((hb2.block _ (by omega)).trans g1),hb02.trans (hW.mono hb02.size),h.below (hb02.trans (hW.mono hb02.size))⟩)
 rw[hw1]at hw2;clear hb1 hs1 g1 hb2 hb02 hrow h hw1 hi hj;go_enter func202,ntmps202;go_wp2_with fail;rw[<-hw2];clear hw2;refine HK.out.mono ?_;rintro e w3⟨A,k,rfl,ho⟩;obtain⟨A',k',e',hk',hr⟩:=ho.read (Zk (by omega) _);injection e' with e1 e2 e3;subst e1 e3;rw[Zeb]at hr hk';have HGT:=hid (ZpQ (k:=k) (HC.out w3 ho.2).2.2 hN hr (Nat.le_refl _));have HR:=hid (And.intro hr hk');have HB3:=hid ho.2;clear ho hr HK hk' e2;go_wp2_with fail;refine HGT.out.mono ?_;rintro e w4⟨u,rfl,hs,hb4⟩;obtain⟨Au,nu,ku,rfl,hu1,hu2,hu3,_⟩:=hs;have HO:=ZeB A 9 k Au nu ku (Zi 76 [i,j],(S.now (tx (Zi 76 [i,j]))).getD []) _ w4 ((HR.out.1.below hb4).more hb4.size) hu3 (Nat.le_refl _) HR.out.2 hu1 (by decide) (Nat.le_trans hu2 (by unfold maxLen;omega));rw[ZfY,ZkY]at HO;have hLA:dlK (Zi 76 [i,j],(S.now (tx (Zi 76 [i,j]))).getD [])=lineAt S i j:=rfl;rw[hLA]at HO
 have hnn:S.now (tx (Zi 76 [i,j]))=none->lineAt S i j=none:=fun q=>by
  unfold lineAt;rw[q,Option.getD_none,Zp1]
 have hlok:∀y,lineAt S i j=some y->ZaE y:=fun y hy=>ZmX (Z3 (by omega) _) hu3.bytes hy
 obtain⟨o,ho⟩:∃o,o=lineAt S i j:=⟨_,rfl⟩
 rw[<-ho]at HO hlok hnn;have HO:=hid HO;have HLK:=hid hlok;have HNN:=hid hnn;have HOO:=hid ho;have HB4:=hid (HB3.out.trans (hb4.mono HB3.out.size));obtain⟨sn,hsn⟩:∃sn,sn=S.now (tx (Zi 76 [i,j])):=⟨_,rfl⟩
 rw[<-hsn]at HNN ⊢;clear hu1 hu2 hu3 hb4 HGT HR HB3 hLA hnn hlok ho hsn;go_wp2_with fail;refine HO.out.mono ?_;rintro e w5⟨rfl,hb5⟩;have hb25:=HB4.out.trans (hb5.mono HB4.out.size);obtain⟨y,hy⟩:∃y,y=o.getD Zav:=⟨_,rfl⟩
 obtain⟨w6,hw6⟩:∃w6,w6=w5.alloc (.cells #[.int .i64 y.nd,.int .i64 y.o,.int .i64 y.l,.int .i64 y.c] 50 (0,0)):=⟨_,rfl⟩
 have hb6:Below w5.heap.size w5 w6:=by rw[hw6];exact(Below.refl _ _).alloc (Nat.le_refl _) _
 obtain⟨q1,q3,_⟩:=HC.out w6 (hb25.trans (hb6.mono hb25.size));obtain⟨z0,z1,z2,z3⟩:=Zu q1;have f0:=Zr q1 0;have f1:=Zr q1 1;have f2:=Zr q1 2;have f3:=Zr q1 3;have HG:=hid (Zbz (x0:=.int .i64 y.nd) (x1:=.int .i64 y.o) (x2:=.int .i64 y.l) (x3:=.int .i64 y.c) q1)
 have HE:=hid (show ∀b,b=o.isSome->Zm4 w ((((w6.setCell ⟨w.heap.size,0,none⟩ (.int .i64 y.nd)).setCell ⟨w.heap.size,1,none⟩ (.int .i64 y.o)).setCell ⟨w.heap.size,2,none⟩ (.int .i64 y.l)).setCell ⟨w.heap.size,3,none⟩ (.int .i64 y.c)) (.returned (.tuple #[.agg #[.int .i64 y.nd,.int .i64 y.o,.int .i64 y.l,.int .i64 y.c],.bool b])) (lineAt S i j)from fun b hb=>by
  rw[<-HOO.out,hb,hy];refine⟨rfl,HLK.out,?_⟩;rw[<-hy]
  exact Zd (Zd (Zd (Zd q3 (Nat.le_refl _) 0 _) (Nat.le_refl _) 1 _) (Nat.le_refl _) 2 _) (Nat.le_refl _) 3 _)
 have HB2:=hid (show(sn.isSome&&o.isSome)=o.isSome from by
  cases sn with
  | none=>rw[HNN.out rfl];rfl
  | some _=>rw[Option.isSome_some,Bool.true_and])
 unfold dlW;rw[<-hy];rw[hw6]at z0 z1 z2 z3 f0 f1 f2 f3;obtain⟨nd,oo,ll,cc⟩:=y;simp only at hw6 z0 z1 z2 z3 HG HE ⊢;obtain⟨os,hos⟩:∃os,os=o.isSome:=⟨_,rfl⟩
 rw[<-hos]at HB2 HE ⊢;obtain⟨ss,hss⟩:∃ss,ss=sn.isSome:=⟨_,rfl⟩
 rw[<-hss]at HB2 ⊢;clear hb25 hb6 q1 q3 HO HB4 HNN hy hos hss HOO HLK;cases ss with
 | false=>
  have HB3:=hid (show false=os from by have:=HB2.out;rwa[Bool.false_and]at this);clear HB2;go_wp2_with fail;rw[<-hw6];refine bodyPost_ret (Zw rfl _ w.heap.size _ rfl (run_loadVar_row _ _ _ _ _ (0,0) _ HG.out underlying50 rfl Zaz)) rfl ?_;exact HE.out _ HB3.out
 | true=>
  clear HB2;cases os with
  | false=>
   go_wp2_with fail;rw[<-hw6];refine bodyPost_ret (Zw rfl _ w.heap.size _ rfl (run_loadVar_row _ _ _ _ _ (0,0) _ HG.out underlying50 rfl Zaz)) rfl ?_;exact HE.out _ (by first|rfl|trivial)
  | true=>
   go_wp2_with fail;rw[<-hw6];refine bodyPost_ret (Zw rfl _ w.heap.size _ rfl (run_loadVar_row _ _ _ _ _ (0,0) _ HG.out underlying50 rfl Zaz)) rfl ?_;exact HE.out _ (by first|rfl|trivial)
end
section
variable{w w':World}{X:Nat->Prop}{x p q r N:Nat}{a:TL}{S:VS}
theorem Zbc(h:ZP w X x p q r a S N)(hN:N<=1000000000)(i:Int)(hi : -9223372036854775808<=i/\i<=9223372036854775807) :
 Calls prog 113 #[.pointer (some ⟨x,0,none⟩),.int .i64 i] w fun e w'=>Zf3 w w' e (docGet S i):=by
 have hEND:∀W,Below w.heap.size w W->docGet S i=none->Zf3 w W (.returned (.tuple #[.agg #[.int .i64 0,.int .i64 0,.int .i64 0,.int .i64 0,.int .i64 0],.slice none 0 0,.bool false])) (docGet S i):=fun W hW hn=>by
  rw[hn];exact⟨none,0,rfl,Enc.Own.start _ _ _,(fun x hx=>by cases hx),(fun p hp=>by cases hp),hW⟩
 have e0:docAt S i=none->docGet S i=none:=fun hq=>by
  by_cases hh:ZaQ i=true
  · exact ZeW hh hq
  · exact Ze0 hh
 have e1:∀d,docAt S i=some d->d.i≠i->docGet S i=none:=fun d hq hne=>Ze0 fun hh=>hne (by
  have h1:=Zm3 (b:=(S.now (tx (Zi 68 [i]))).getD []) hq;have h2:=(Zaa _).1 hh;rw[h1];unfold Zn
  omega)
 have e2:∀d,docAt S i=some d->d.i=i->ZaQ i=true:=fun d hq he=>(Zaa _).2 (by
  have h1:=Zm3 (b:=(S.now (tx (Zi 68 [i]))).getD []) hq;rw[he]at h1;have h2:=ZcK i
  omega)
 obtain⟨w1,hw1⟩:∃w1,w1=w.alloc (.cells #[.int .i64 0,.int .i64 0,.int .i64 0,.int .i64 0,.int .i64 0] 44):=⟨_,rfl⟩
 have hb1:Below w.heap.size w w1:=by rw[hw1];exact(Below.refl _ _).alloc (Nat.le_refl _) _
 have hs1:w1.heap.size=w.heap.size+1:=by rw[hw1];simp
 have g1:w1.heap[w.heap.size]?=some (.cells #[.int .i64 0,.int .i64 0,.int .i64 0,.int .i64 0,.int .i64 0] 44 (0,0)):=by rw[hw1];exact heap_alloc_new w _
 obtain⟨w2,hw2⟩:∃w2,w2=w1.alloc (.cells #[.int .i64 i] 3):=⟨_,rfl⟩
 have hb2:Below w1.heap.size w1 w2:=by rw[hw2];exact(Below.refl _ _).alloc (Nat.le_refl _) _
 have hb02:=hb1.trans (hb2.mono hb1.size);have hrow:ZR w2 (w.heap.size+1) [i]:=by rw[hw2,<-hs1];exact ZR.a' (l:=[i]) w1 3
 have HK:=hid (ZhA 68 [i] 1 5 (by omega) (fun z hz=>by obtain rfl:=List.mem_singleton.1 hz;exact hi) rfl (by omega) rfl w2 (w.heap.size+1) hrow)
 have HC:=hid (show ∀W,Below w2.heap.size w2 W->W.heap[w.heap.size]?=some (.cells #[.int .i64 0,.int .i64 0,.int .i64 0,.int .i64 0,.int .i64 0] 44 (0,0))/\Below w.heap.size w W/\ZP W X x p q r a S N from fun W hW=>
  ⟨(hW.block _ (by have:=hb2.size;omega)).trans ((hb2.block _ (by omega)).trans g1),hb02.trans (hW.mono hb02.size),h.below (hb02.trans (hW.mono hb02.size))⟩)
 have HI:=hid hi;have HEND:=hid hEND;rw[hw1]at hw2;clear hb1 hs1 g1 hb2 hb02 hrow h hw1 hi hEND;go_enter func113,ntmps113;go_wp2_with fail;rw[<-hw2];clear hw2;refine HK.out.mono ?_;rintro e w3⟨A,k,rfl,ho⟩;obtain⟨A',k',e',hk',hr⟩:=ho.read (Zk (by omega) _);injection e' with e1' e2' e3';subst e1' e3';rw[Zh8]at hr hk';have HGT:=hid (ZpQ (k:=k) (HC.out w3 ho.2).2.2 hN hr (Nat.le_refl _));have HR:=hid (And.intro hr hk');have HB3:=hid ho.2;clear ho hr HK hk' e2';go_wp2_with fail;refine HGT.out.mono ?_;rintro e w4⟨u,rfl,hs,hb4⟩;obtain⟨Au,nu,ku,rfl,hu1,hu2,hu3,_⟩:=hs;have HDO:=Zi9 A 5 k Au nu ku (Zi 68 [i],(S.now (tx (Zi 68 [i]))).getD []) _ w4 ((HR.out.1.below hb4).more hb4.size) hu3 (Nat.le_refl _) HR.out.2 hu1 (by decide) (Nat.le_trans hu2 (by unfold maxLen;omega));rw[ZpM,ZkX]at HDO;have hDA:dcK (Zi 68 [i],(S.now (tx (Zi 68 [i]))).getD [])=docAt S i:=rfl;rw[hDA]at HDO
 have hnn:S.now (tx (Zi 68 [i]))=none->docAt S i=none:=fun q=>by
  unfold docAt;rw[show S.now (dKy i)=none from q,Option.getD_none,Zp2]
 have hdok:∀d,docAt S i=some d->ZmW d:=fun d hd=>ZpN (Z3 (by omega) _) hu3.bytes hd
 have E0:=hid e0;have E1:=hid e1;have E2:=hid (fun(d:Dc) (q:docAt S i=some d) (g:d.i=i) (z:Zcj d=false)=>Zf4 (e2 d q g) q z);have E3:=hid (fun(d:Dc) (q:docAt S i=some d) (g:d.i=i) (z:Zcj d=true)=>Zid (e2 d q g) q z);have HDO:=hid HDO;have HDK:=hid hdok;have HNN:=hid hnn;have HB4:=hid (HB3.out.trans (hb4.mono HB3.out.size));clear e0 e1 e2;generalize docAt S i=o at HDO HDK HNN E0 E1 E2 E3;obtain⟨sn,hsn⟩:∃sn,sn=S.now (tx (Zi 68 [i])):=⟨_,rfl⟩
 rw[<-hsn]at HNN ⊢;clear hu1 hu2 hu3 hb4 HGT HR HB3 hDA hnn hdok hsn;go_wp2_with fail;refine HDO.out.mono ?_;rintro e w5⟨rfl,hb5⟩;have HB5:=hid (HB4.out.trans (hb5.mono HB4.out.size));clear hb5 HDO HB4;cases o with
 | none=>
  have hn:=E0.out rfl;obtain⟨w6,hw6⟩:∃w6,w6=w5.alloc (.cells #[.int .i64 0,.int .i64 0,.int .i64 0,.int .i64 0,.int .i64 0] 44 (0,0)):=⟨_,rfl⟩
  have hb6:Below w5.heap.size w5 w6:=by rw[hw6];exact(Below.refl _ _).alloc (Nat.le_refl _) _
  have HB6:=hid (HB5.out.trans (hb6.mono HB5.out.size));simp only[ZoK,Option.isSome_none];clear hb6 E0 E1 E2 E3 HDK HNN;generalize sn.isSome=ss;cases ss with
  | false=>
   obtain⟨q1,q3,_⟩:=HC.out w6 (HB6.out);obtain⟨r1,r2⟩:=Zeu q1 rfl q3 (Nat.le_refl _) Zbt;have HG:=hid r1;have HE:=hid (HEND.out _ r2 hn);obtain⟨z0,z1,z2,z3,z4⟩:=ZK q1;have f0:=Zr q1 0;have f1:=Zr q1 1;have f2:=Zr q1 2;have f3:=Zr q1 3;have f4:=Zr q1 4;clear hn q1 q3 r1 r2;rw[hw6]at z0 z1 z2 z3 z4 f0 f1 f2 f3 f4;go_wp2_with fail;rw[<-hw6];refine bodyPost_ret (ZN rfl _ w.heap.size _ rfl (run_loadVar_row _ _ _ _ _ (0,0) _ HG.out underlying44 rfl Z6)) rfl ?_;exact HE.out
  | true=>
   obtain⟨q1,q3,_⟩:=HC.out w6 (HB6.out);obtain⟨r1,r2⟩:=Zeu q1 rfl q3 (Nat.le_refl _) Zbt;have HG:=hid r1;have HE:=hid (HEND.out _ r2 hn);obtain⟨z0,z1,z2,z3,z4⟩:=ZK q1;have f0:=Zr q1 0;have f1:=Zr q1 1;have f2:=Zr q1 2;have f3:=Zr q1 3;have f4:=Zr q1 4;clear hn q1 q3 r1 r2;rw[hw6]at z0 z1 z2 z3 z4 f0 f1 f2 f3 f4;go_wp2_with fail;rw[<-hw6];refine bodyPost_ret (ZN rfl _ w.heap.size _ rfl (run_loadVar_row _ _ _ _ _ (0,0) _ HG.out underlying44 rfl Z6)) rfl ?_;exact HE.out
 | some d=>
  obtain⟨di,dk,dy,df,dn⟩:=d;have hdok:=HDK.out _ rfl
  have hss:sn.isSome=true:=by
   cases sn with
   | none=>cases HNN.out rfl
   | some _=>rfl
  obtain⟨w6,hw6⟩:∃w6,w6=w5.alloc (.cells #[.int .i64 di,.int .i64 dk,.int .i64 dy,.int .i64 df,.int .i64 dn] 44 (0,0)):=⟨_,rfl⟩
  have hb6:Below w5.heap.size w5 w6:=by rw[hw6];exact(Below.refl _ _).alloc (Nat.le_refl _) _
  have hs6:w6.heap.size=w5.heap.size+1:=by rw[hw6];simp
  have g6:w6.heap[w5.heap.size]?=some (.cells #[.int .i64 di,.int .i64 dk,.int .i64 dy,.int .i64 df,.int .i64 dn] 44 (0,0)):=by rw[hw6];exact heap_alloc_new w5 _
  have HB6:=hid (HB5.out.trans (hb6.mono HB5.out.size));have HC6:=hid (show ∀W,Below w6.heap.size w6 W->W.heap[w5.heap.size]?=some (.cells #[.int .i64 di,.int .i64 dk,.int .i64 dy,.int .i64 df,.int .i64 dn] 44 (0,0))from fun W hW=>(hW.block _ (by omega)).trans g6);rw[hss];simp only[dcW,Option.getD_some,Option.isSome_some];clear hb6 hs6 g6 HB5 HNN hss;by_cases g0:di=i
  case neg=>
   have k0:(di != i)=true:=by simp[g0]
   have hn:=E1.out _ rfl g0;clear E0 E1 E2 E3 HDK hdok g0;obtain⟨q1,q3,_⟩:=HC.out w6 (HB6.out);obtain⟨r1,r2⟩:=Zeu q1 rfl q3 (Nat.le_refl _) Zbt;have HG:=hid r1;have HE:=hid (HEND.out _ r2 hn);obtain⟨z0,z1,z2,z3,z4⟩:=ZK q1;have f0:=Zr q1 0;have f1:=Zr q1 1;have f2:=Zr q1 2;have f3:=Zr q1 3;have f4:=Zr q1 4;clear hn q1 q3 r1 r2;rw[hw6]at z0 z1 z2 z3 z4 f0 f1 f2 f3 f4;go_wp2_with fail;rw[<-hw6];refine bodyPost_ret (ZN rfl _ w.heap.size _ rfl (run_loadVar_row _ _ _ _ _ (0,0) _ HG.out underlying44 rfl Z6)) rfl ?_;exact HE.out
  have k0:(di != i)=false:=by simp[g0]
  by_cases g1:dn<1
  case pos=>
   have k3:decide (dn<1)=true:=decide_eq_true g1;have hn:=E2.out _ rfl g0 (by unfold Zcj;simp only[Bool.and_eq_false_iff,decide_eq_false_iff_not];omega);clear E0 E1 E2 E3 HDK hdok g0 g1;obtain⟨q1,q3,_⟩:=HC.out w6 (HB6.out);obtain⟨r1,r2⟩:=Zeu q1 rfl q3 (Nat.le_refl _) Zbt;have HG:=hid r1;have HE:=hid (HEND.out _ r2 hn);obtain⟨z0,z1,z2,z3,z4⟩:=ZK q1;have f0:=Zr q1 0;have f1:=Zr q1 1;have f2:=Zr q1 2;have f3:=Zr q1 3;have f4:=Zr q1 4;clear hn q1 q3 r1 r2;rw[hw6]at z0 z1 z2 z3 z4 f0 f1 f2 f3 f4;go_wp2_with fail;rw[<-hw6];refine bodyPost_ret (ZN rfl _ w.heap.size _ rfl (run_loadVar_row _ _ _ _ _ (0,0) _ HG.out underlying44 rfl Z6)) rfl ?_;exact HE.out
  have k3:decide (dn<1)=false:=decide_eq_false g1;by_cases g2:dn>6
  case pos=>
   have k4:decide (dn>6)=true:=decide_eq_true g2;have hn:=E2.out _ rfl g0 (by unfold Zcj;simp only[Bool.and_eq_false_iff,decide_eq_false_iff_not];omega);clear E0 E1 E2 E3 HDK hdok g0 g1 g2;obtain⟨q1,q3,_⟩:=HC.out w6 (HB6.out);obtain⟨r1,r2⟩:=Zeu q1 rfl q3 (Nat.le_refl _) Zbt;have HG:=hid r1;have HE:=hid (HEND.out _ r2 hn);obtain⟨z0,z1,z2,z3,z4⟩:=ZK q1;have f0:=Zr q1 0;have f1:=Zr q1 1;have f2:=Zr q1 2;have f3:=Zr q1 3;have f4:=Zr q1 4;clear hn q1 q3 r1 r2;rw[hw6]at z0 z1 z2 z3 z4 f0 f1 f2 f3 f4;go_wp2_with fail;rw[<-hw6];refine bodyPost_ret (ZN rfl _ w.heap.size _ rfl (run_loadVar_row _ _ _ _ _ (0,0) _ HG.out underlying44 rfl Z6)) rfl ?_;exact HE.out
  have k4:decide (dn>6)=false:=decide_eq_false g2;obtain⟨M,rfl⟩:∃M:Nat,dn=(M:Int):=⟨dn.toNat,by omega⟩
  have hd:=E3.out _ rfl g0 (by unfold Zcj;simp only[Bool.and_eq_true,decide_eq_true_eq];omega);have hM6:M<=6:=by omega
  have HD:=hid (show docGet S i=(ZM S i M).map fun l=>((⟨di,dk,dy,df,(M:Int)⟩:Dc),l)from hd);have HDOK:=hid hdok;clear hd E0 E1 E2 E3 HDK hdok g0 g1 g2;go_wp2_with fail;rw[<-hw6];clear hw6
  go_loopw[12,13] (fun u iv wr=>∃(j:Nat) (L:List Dl) (A:Option Addr) (k:Nat),j<=M/\iv=.int .i64 j/\u=.slice A L.length k/\Hid (DlE.Own 50 wr w6.heap.size (.slice A L.length k) L/\(∀x∈L,ZaE x)/\ZM S i j=some L/\Below w6.heap.size w6 wr)) (fun _ iv _=>M-(intOf iv).toNat)
  case atStart=>exact⟨0,[],none,0,Nat.zero_le _,rfl,rfl,hid ⟨Enc.Own.start _ _ _,(fun x hx=>by cases hx),rfl,Below.refl _ _⟩⟩
  case round=>
   obtain⟨j,L,A,k,hj,rfl,rfl,HJ⟩:=hrel;by_cases hlt:j<M
   · have hlt':(j:Int)<(M:Int):=by omega
     obtain⟨hown,hLok,hla,hbw⟩:=HJ.out;have hb6w:Below w2.heap.size w2 wr:=HB6.out.trans (hbw.mono HB6.out.size);obtain⟨_,_,hvw⟩:=HC.out wr hb6w;obtain⟨y0,y1,y2,y3,y4⟩:=ZK (HC6.out wr hbw);have HPL:=hid (Zm5 hvw hN i (j:Int) HI.out (by omega));have F0:=hid (fun(q:lineAt S i j=none)=>Zee hlt hla q);have F1:=hid (fun(x:Dl) (q:lineAt S i j=some x)=>Zef hla q);have HOW:=hid (And.intro hown hLok);have HBW:=hid hbw;have HLL:=hid (ZaK hla);generalize lineAt S i j=o at HPL F0 F1;clear hown hLok hla hbw hb6w hvw HJ;go_wp2_with fail;refine HPL.out.mono ?_;rintro e w8⟨rfl,hlk,hb8⟩;have HB8:=hid hb8;have HLK:=hid hlk;clear hb8 hlk HPL y0 y1 y2 y3 y4;cases o with
     | none=>
      have hn:docGet S i=none:=by rw[HD.out,F0.out rfl];rfl
      obtain⟨w9,hw9⟩:∃w9,w9=w8.alloc (.cells #[.int .i64 0,.int .i64 0,.int .i64 0,.int .i64 0] 50 (0,0)):=⟨_,rfl⟩
      have hb9:Below w8.heap.size w8 w9:=by rw[hw9];exact(Below.refl _ _).alloc (Nat.le_refl _) _
      have hall:=HB6.out.trans ((HBW.out.trans ((HB8.out.trans (hb9.mono HB8.out.size)).mono HBW.out.size)).mono HB6.out.size);obtain⟨q1,q3,_⟩:=HC.out w9 (hall);obtain⟨r1,r2⟩:=Zeu q1 rfl q3 (Nat.le_refl _) Zbt;have HG:=hid r1;have HE:=hid (HEND.out _ r2 hn);obtain⟨z0,z1,z2,z3,z4⟩:=ZK q1;have f0:=Zr q1 0;have f1:=Zr q1 1;have f2:=Zr q1 2;have f3:=Zr q1 3;have f4:=Zr q1 4;simp only[dlW,Option.getD_none,Zav,Option.isSome_none];clear hn hb9 hall q1 q3 r1 r2 F0 F1 HLK;rw[hw9]at z0 z1 z2 z3 z4 f0 f1 f2 f3 f4;go_wp2_with fail;rw[<-hw9]
      try rw[Exit.noGoto_ret]
      refine bodyPost_ret (ZN rfl _ w.heap.size _ rfl (run_loadVar_row _ _ _ _ _ (0,0) _ HG.out underlying44 rfl Z6)) rfl ?_;exact HE.out
     | some x=>
      have hxok:=HLK.out x rfl;have hmore:=F1.out x rfl;obtain⟨x0,x1,x2,x3⟩:=x;obtain⟨wx,hwx⟩:∃wx,wx=w8.alloc (.cells #[.int .i64 x0,.int .i64 x1,.int .i64 x2,.int .i64 x3] 50 (0,0)):=⟨_,rfl⟩
      have hX:Below w8.heap.size w8 wx:=by rw[hwx];exact(Below.refl _ _).alloc (Nat.le_refl _) _
      have hblk:wx.heap[w8.heap.size]?=some (.cells #[.int .i64 x0,.int .i64 x1,.int .i64 x2,.int .i64 x3] 50 (0,0)):=by rw[hwx];exact heap_alloc_new w8 _
      have hsz:wx.heap.size=w8.heap.size+1:=by rw[hwx];simp
      obtain⟨r0,r1,r2,r3⟩:=Zu hblk;have hY:Below wx.heap.size wx (wx.alloc (.cells #[.int .i64 x0,.int .i64 x1,.int .i64 x2,.int .i64 x3] 50 (0,0))):=(Below.refl _ _).alloc (Nat.le_refl _) _;have hXY:=HB8.out.trans ((hX.trans (hY.mono hX.size)).mono HB8.out.size);obtain⟨v',w9,hrun,hown9,hb9,hg,hgr⟩:=(HOW.out.1.below hXY).append1 DlT (x:=⟨x0,x1,x2,x3⟩) (heap_alloc_new wx _) rfl hxok (by have:=HLL.out;omega) (Nat.le_trans HBW.out.size hXY.size) 45;rw[hsz]at hrun;obtain⟨A9,k9,rfl,hk9⟩:=hown9.shape;have hlen9:(L++[(⟨x0,x1,x2,x3⟩:Dl)]).length=L.length+1:=by rw[List.length_append];rfl
      have HNEW:=hid (show DlE.Own 50 w9 w6.heap.size (.slice A9 (L++[(⟨x0,x1,x2,x3⟩:Dl)]).length k9) (L++[⟨x0,x1,x2,x3⟩])/\(∀x∈L++[(⟨x0,x1,x2,x3⟩:Dl)],ZaE x)/\ZM S i (j+1)=some (L++[⟨x0,x1,x2,x3⟩])/\Below w6.heap.size w6 w9 from
       ⟨hown9,fun x hx=>by
        rcases List.mem_append.1 hx with hx|hx
        · exact HOW.out.2 x hx
        · obtain rfl:=List.mem_singleton.1 hx
          exact hxok,hmore,(HBW.out.trans (hXY.mono HBW.out.size)).trans hb9⟩)
      rw[hlen9]at hrun;have HRUN:=hid hrun;have HLEN9:=hid hlen9;subst hwx;clear hxok hmore hX hblk hsz hY hXY hrun hown9 hb9 hg hgr hk9 hlen9 F0 F1 HLK HOW;simp only[dlW,Option.getD_some,Option.isSome_some]
      go_wp2_with (at_builtin;refine Lib.wpList_append_run _ rfl _ _ _ _ rfl _ _ rfl rfl _ _ HRUN.out ?_)
      go_roundw
      case rel=>exact⟨j+1,_,A9,k9,by omega,by go_num,by rw[HLEN9.out],HNEW⟩
      case measure=>simp[intOf];omega
   · obtain rfl:j=M:=by omega
     obtain⟨hown,hLok,hla,hbw⟩:=HJ.out;obtain⟨q1,q3,_⟩:=HC.out wr (HB6.out.trans (hbw.mono HB6.out.size));have q6:=HC6.out wr hbw;obtain⟨r1,r2⟩:=Zeu q1 rfl q3 (Nat.le_refl _) ⟨di,dk,dy,df,(j:Int)⟩;have HG:=hid r1;have hle:w.heap.size<w6.heap.size:=(Array.getElem?_eq_some_iff.1 (HC.out w6 HB6.out).1).1
     have HE:=hid (show Zf3 w (((((wr.setCell ⟨w.heap.size,0,none⟩ (.int .i64 di)).setCell ⟨w.heap.size,1,none⟩ (.int .i64 dk)).setCell ⟨w.heap.size,2,none⟩ (.int .i64 dy)).setCell ⟨w.heap.size,3,none⟩ (.int .i64 df)).setCell ⟨w.heap.size,4,none⟩ (.int .i64 (j:Int))) (.returned (.tuple #[.agg #[.int .i64 di,.int .i64 dk,.int .i64 dy,.int .i64 df,.int .i64 (j:Int)],.slice A L.length k,.bool true])) (docGet S i)from by
      rw[HD.out,hla]
      exact⟨A,k,rfl,(hown.stays fun g hg=>by
       have hgl:=(hown.at_ g hg).1
       rw[heap_setCell_other _ _ _ _ (show g≠w.heap.size by omega),heap_setCell_other _ _ _ _ (show g≠w.heap.size by omega),heap_setCell_other _ _ _ _ (show g≠w.heap.size by omega),heap_setCell_other _ _ _ _ (show g≠w.heap.size by omega),heap_setCell_other _ _ _ _ (show g≠w.heap.size by omega)]).base_le (by omega),hLok,(fun p hp=>by cases hp;exact HDOK.out),r2⟩)
     obtain⟨z0,z1,z2,z3,z4⟩:=ZK q1;obtain⟨y0,y1,y2,y3,y4⟩:=ZK q6;have f0:=Zr q1 0;have f1:=Zr q1 1;have f2:=Zr q1 2;have f3:=Zr q1 3;have f4:=Zr q1 4;clear hown hLok hla hbw q1 q3 q6 r1 r2 HJ;go_wp2_with fail;refine bodyPost_ret (ZN rfl _ w.heap.size _ rfl (run_loadVar_row _ _ _ _ _ (0,0) _ HG.out underlying44 rfl Z6)) rfl ?_;exact HE.out
end
section
variable{w w':World}{X:Nat->Prop}{x p q r N:Nat}{a:TL}{S:VS}
theorem Zeg(h:ZP w X x p q r a S N)(hN:N<=1000000)(i j:Int)(y:Dl)(hy:ZaE y)(hi : -9223372036854775808<=i/\i<=9223372036854775807)(hj : -9223372036854775808<=j/\j<=9223372036854775807) :
 Calls prog 115 #[.pointer (some ⟨x,0,none⟩),.int .i64 i,.int .i64 j,.agg #[.int .i64 y.nd,.int .i64 y.o,.int .i64 y.l,.int .i64 y.c]] w fun e w'=>e=.returned (.int .i64 (setLine S i j y).1)/\ZP w' X x p q r a (setLine S i j y).2 (N+1)/\Za (fun k=>k=q∨k=r) w w':=by
 obtain⟨w1,hw1⟩:∃w1,w1=w.alloc (.cells #[.int .i64 y.nd,.int .i64 y.o,.int .i64 y.l,.int .i64 y.c] 50):=⟨_,rfl⟩
 have hb1:Below w.heap.size w w1:=by rw[hw1];exact(Below.refl _ _).alloc (Nat.le_refl _) _
 have hs1:w1.heap.size=w.heap.size+1:=by rw[hw1];simp
 have hblk:w1.heap[w.heap.size]?=some (.cells #[.int .i64 y.nd,.int .i64 y.o,.int .i64 y.l,.int .i64 y.c] 50 (0,0)):=by rw[hw1];exact heap_alloc_new w _
 have HG:=hid (Zbc (h.below hb1) (by omega) i hi)
 have e0:(docGet S i).isSome=false->setLine S i j y=(7,S):=fun q=>by
  unfold setLine
  cases hd:docGet S i with
  | none=>rfl
  | some p=>rw[hd]at q;cases q
 have e1:¬(0<=j/\j<((Zet (docGet S i)).length:Int))->setLine S i j y=(7,S):=fun q=>by
  unfold setLine
  cases hd:docGet S i with
  | none=>rfl
  | some p=>rw[hd]at q;exact if_neg q
 have e2:(0<=j/\j<((Zet (docGet S i)).length:Int))->setLine S i j y=(0,S.putL i j y):=fun q=>by
  unfold setLine
  cases hd:docGet S i with
  | none=>rw[hd]at q;have:((Zet none).length:Int)=0:=rfl;omega
  | some p=>rw[hd]at q;exact if_pos q
 have HV:=hid (show ∀W,Below w.heap.size w W->ZP W X x p q r a S N from fun W hW=>h.below hW);have H1:=hid (show ∀W,Below w1.heap.size w1 W->W.cell? ⟨w.heap.size,0,none⟩=some (.int .i64 y.nd)/\W.cell? ⟨w.heap.size,1,none⟩=some (.int .i64 y.o)/\W.cell? ⟨w.heap.size,2,none⟩=some (.int .i64 y.l)/\W.cell? ⟨w.heap.size,3,none⟩=some (.int .i64 y.c)from fun W hW=>Zu ((hW.block _ (by omega)).trans hblk));have HB:=hid hb1
 have hin:ZbL [y.nd,y.o,y.l,y.c,i,j]:=by
  intro z hz;simp only[List.mem_cons,List.not_mem_nil,or_false]at hz;rcases hz with rfl|rfl|rfl|rfl|rfl|rfl
  · exact hy _ (by simp)
  · exact hy _ (by simp)
  · exact hy _ (by simp)
  · exact hy _ (by simp)
  · exact hi
  · exact hj
 have HDL:=hid (fun W=>ZcZ i j y.nd y.o y.l y.c W hin);have E:=hid (And.intro e0 (And.intro e1 e2));generalize setLine S i j y=res at E ⊢;generalize docGet S i=o at HG E;clear h hs1 hblk hb1 e0 e1 e2 hin hy hi;go_enter func115,ntmps115;go_wp2_with fail;rw[<-hw1];clear hw1;refine HG.out.mono ?_;rintro e w2⟨A,k,rfl,hown,_,_,hb2⟩;unfold dcW;generalize (o.map fun p=>p.1).getD Zbt=D;generalize (Zet o).length=n at E hown ⊢;generalize o.isSome=bb at E ⊢;obtain⟨w3,hw3⟩:∃w3,w3=w2.alloc (.cells #[.int .i64 D.i,.int .i64 D.k,.int .i64 D.y,.int .i64 D.f,.int .i64 D.n] 44 (0,0)):=⟨_,rfl⟩
 have hb3:Below w2.heap.size w2 w3:=by rw[hw3];exact(Below.refl _ _).alloc (Nat.le_refl _) _
 have hb13:=hb2.trans (hb3.mono hb2.size);have HT:=hid (And.intro (HV.out w3 (HB.out.trans (hb13.mono HB.out.size))) (Za.of_below (F:=fun k=>k=q∨k=r) (HB.out.trans (hb13.mono HB.out.size))));have HE7:=hid (And.intro (HT.out.1.more (Nat.le_succ N)) HT.out.2);obtain⟨c0,c1,c2,c3⟩:=H1.out w3 hb13;have HB13:=hid hb13;rw[hw3]at c0 c1 c2 c3;clear hown hb2 hb3 hb13 HG;cases bb with
 | false=>
  obtain rfl:=E.out.1 rfl;clear E;go_wp2_with fail;go_ret;exact⟨rfl,by rw[<-hw3];exact HE7.out⟩
 | true=>
 by_cases g1:j<0
 · have k1:decide (j<0)=true:=decide_eq_true g1;obtain rfl:=E.out.2.1 (by omega);clear E g1;go_wp2_with fail;go_ret;exact⟨rfl,by rw[<-hw3];exact HE7.out⟩
 have k1:decide (j<0)=false:=decide_eq_false g1;by_cases g2:(n:Int)<=j
 · have k2:decide ((n:Int)<=j)=true:=decide_eq_true g2;obtain rfl:=E.out.2.1 (by omega);clear E g1 g2;go_wp2_with fail;go_ret;exact⟨rfl,by rw[<-hw3];exact HE7.out⟩
 have k2:decide ((n:Int)<=j)=false:=decide_eq_false g2;obtain rfl:=E.out.2.2 (by omega);clear E g1 g2 HE7;go_wp2_with fail;rw[<-hw3];clear hw3 c0 c1 c2 c3;refine(HDL.out _).mono ?_;rintro e w4 hp;obtain⟨kA,kc,vA,vc,rfl,hk,hv,hb4⟩:=hp.svs HT.out.1.old (Zk (by omega) _) (Zz _ _) (by rw[Zeb];omega) (by rw[Zh];simp);have e32:(Zj 8 [y.nd,y.o,y.l,y.c]).length=32:=by rw[Zh];rfl
 rw[Zeb]at hk ⊢;rw[e32]at hv ⊢;have HS:=hid (ZeZ (HT.out.1.below hb4) (by omega) i j y hk hv);have HTT:=hid (HT.out.2.trans (Za.of_below (F:=fun k=>k=q∨k=r) hb4));clear hp hk hv hb4 e32 HT HDL HV H1 HB13;go_wp2_with fail;refine HS.out.mono ?_;rintro e w5⟨rfl,h5,t5⟩;have HE:=hid (And.intro h5 (HTT.out.trans t5));clear h5 t5 HS HTT;go_wp2_with fail;go_ret;exact⟨rfl,HE.out⟩
end
end Go.Proofs.YtiknkbpojmgbhaaGreat
