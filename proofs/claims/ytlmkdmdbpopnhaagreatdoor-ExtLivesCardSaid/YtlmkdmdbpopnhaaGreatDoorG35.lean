/- ExwB, ExwC, ExwD, ExwE, ExwF, ExwG. Conditions: in each theorem. -/
import Derived.Test.YtlmkdmdbpopnhaaGreatDoorG34
set_option maxRecDepth 100000
set_option linter.unusedVariables false
namespace Go.Proofs.YtlmkdmdbpopnhaaGreatDoor
open Go.RowKit
def Zch(dir:List Nat):List Int:=dir.map (fun n:Nat=>(n:Int))
def ZaR(fr:List Nat):Int:=((fr[0]?.getD 0:Nat):Int)
def ZbV(S:DS)(L:List (Int×List Int))(fr:List Nat):Prop:=∀(i q:Nat),fr[i]?=some q->Zaz S L 0 1 [(q:Int)] 0=(((fr[i+1]?.getD 0:Nat):Int),0)
structure Zic(e:Ex)(M:MV):Prop where
 d:M.d=(e.d:Int)
 l:M.l=Zch e.dir
 f:M.f=ZaR e.fr
 n:M.n=(e.nx:Int)
def ZbC(S:DS)(L:List (Int×List Int))(M:MV)(SL:Int->Option Int)(N:Nat)(sl:Nat->Nat):Prop:=∀s,s<N->ZeF S L M SL (s:Int) (sl s:Int)
def Zb3(cap nx:Nat)(fr:List Nat):Prop:=cap<=4294967296/\nx<=cap/\∀x∈fr,x<cap
section
variable{S:DS}{L:List (Int×List Int)}{M M':MV}{SL:Int->Option Int}{cap nx nx' q:Nat}{fr fr' dir dir':List Nat}
theorem ZaZ(dir:List Nat):(Zch dir).length=dir.length:=by simp[Zch]
theorem Zof(dir:List Nat)(q:Nat):Zch (dir++[q])=Zch dir++[(q:Int)]:=by simp[Zch]
theorem ZbV.tail{a:Nat}(h:ZbV S L (a::fr)):ZbV S L fr:=fun i q hq=>h (i+1) q (by simpa using hq)
theorem Zb3.next(h:Zb3 cap nx fr)(ht:Zd0 cap fr nx=some (q,fr',nx')):Zb3 cap nx' fr'/\q<cap:=by
 obtain⟨h1,h2,h3⟩:=h;rcases takeF_is ht with ⟨rfl,rfl⟩|⟨rfl,rfl,rfl,rfl,hc⟩
 · exact⟨⟨h1,h2,fun x hx=>h3 x (List.mem_cons_of_mem _ hx)⟩,h3 q List.mem_cons_self⟩
 · exact⟨⟨h1,hc,fun x hx=>absurd hx List.not_mem_nil⟩,hc⟩
theorem Zc7(h:Zb3 cap nx fr):0<=ZaR fr/\ZaR fr<=4294967296:=by
 unfold ZaR;cases fr with
 | nil=>simp
 | cons a t=>
  have:=h.2.2 a List.mem_cons_self
  have:=h.1
  simp only[List.getElem?_cons_zero,Option.getD_some];omega
theorem ZkL(hcap:pagesOf S.n=(cap:Int))(hF:ZbV S L fr)(h0:∀x∈fr,x≠0)(hf:M.f=ZaR fr)(hn:M.n=(nx:Int))(ht:Zd0 cap fr nx=some (q,fr',nx')):Zcr S L M (q:Int) {M with f:=ZaR fr',n:=(nx':Int)}:=by
 obtain⟨d,f,n,c,l⟩:=M;simp only at hf hn;subst hf hn;rcases takeF_is ht with ⟨rfl,rfl⟩|⟨rfl,rfl,rfl,rfl,hc⟩
 · refine .inr ⟨?_,ZaR fr',?_,rfl,rfl⟩
   · have:=h0 q List.mem_cons_self
     show((q:Nat):Int)≠0
     omega
   · have:=hF 0 q rfl
     exact this
 · refine .inl ⟨rfl,by rw[hcap];show(q:Int)<_;omega,rfl,?_⟩
   show(⟨d,0,((q+1:Nat):Int),c,l⟩:MV)=⟨d,0,(q:Int)+1,c,l⟩
   simp
theorem Zqc(hcap:pagesOf S.n=(cap:Int)):∀(k:Nat) {dir fr:List Nat} {nx:Nat} {M:MV},Zb3 cap nx fr->ZbV S L fr->(∀x∈fr,x≠0)->M.f=ZaR fr->M.n=(nx:Int)->M.l=Zch dir->needD M.d=dir.length+k->ZmI cap k dir fr nx=some (dir',fr',nx')->
 ∃t:List Nat,dir'=dir++t/\t.length=k/\LenIs S L M ⟨M.d,ZaR fr',(nx':Int),M.c,Zch dir'⟩ (t.map fun q:Nat=>Stp.lay (q:Int) (Zcm 240 0))/\Zb3 cap nx' fr'/\ZbV S L fr'/\(∀x∈fr',x≠0)/\∀x∈t,x<cap
 | 0,dir,fr,nx,M,hS,hF,h0,hf,hn,hl,hk,hr=>by
  simp only[ZmI,Option.some.injEq,Prod.mk.injEq]at hr;obtain⟨rfl,rfl,rfl⟩:=hr;refine⟨[],by simp,rfl,?_,hS,hF,h0,fun x hx=>absurd hx List.not_mem_nil⟩;obtain⟨d,f,n,c,l⟩:=M;simp only at hf hn hl hk;subst hf hn hl;exact LenIs.done (M:=⟨d,ZaR fr,(nx:Int),c,Zch dir⟩) (by show needD d<=(Zch dir).length;rw[ZaZ,hk];exact ZZe _)
 | k+1,dir,fr,nx,M,hS,hF,h0,hf,hn,hl,hk,hr=>by
  unfold ZmI at hr
  split at hr
  · cases hr
  · rename_i q f1 n1 ht
    obtain⟨hS1,hq⟩:=hS.next ht;have hT:=ZkL hcap hF h0 hf hn ht
    have hF1:ZbV S L f1/\∀x∈f1,x≠0:=by
     rcases takeF_is ht with ⟨rfl,rfl⟩|⟨rfl,rfl,rfl,rfl,hc⟩
     · exact⟨hF.tail,fun x hx=>h0 x (List.mem_cons_of_mem _ hx)⟩
     · exact⟨hF,h0⟩
    obtain⟨t,e1,e2,h1,h2,h3,h4,h5⟩:=Zqc hcap k (M:=⟨M.d,ZaR f1,(n1:Int),M.c,M.l++[(q:Int)]⟩) hS1 hF1.1 hF1.2 rfl rfl (by rw[hl,Zof]) (by show needD M.d=_;rw[hk,List.length_append,List.length_singleton];omega) hr;refine⟨q::t,by rw[e1];simp,by simp[e2],?_,h2,h3,h4,fun x hx=>by rcases List.mem_cons.1 hx with rfl|hx;exact hq;exact h5 x hx⟩;have hb:=Zc7 hS;have hnn:=hS.2.1;have hcc:=hS.1;rw[List.map_cons];exact .more (by rw[hl,ZaZ,hk];omega) (by rw[hn];omega) (by rw[hf];omega) hT (by omega) h1
theorem Zjn{N:Nat}{sl:Nat->Nat}(h:ZbC S L M SL N sl):ZbC S L M (ZdE N (fun j=>(sl j:Int)) N SL) (N+N) (fun s=>sl (s%N)):=fun s hs=>by
 show ZeF S L M _ (s:Int) ((sl (s%N):Nat):Int);by_cases hlt:s<N
 · rw[Nat.mod_eq_of_lt hlt];have e:ZdE N (fun j=>(sl j:Int)) N SL (s:Int)=SL (s:Int):=by unfold ZdE;rw[if_neg (by omega)]
   rcases h s hlt with a|⟨a,b⟩
   · exact .inl (e.trans a)
   · exact .inr ⟨e.trans a,b⟩
 · refine .inl ?_;unfold ZdE;rw[if_pos (by omega)]
   have e2:((s:Int)-(N:Int)).toNat=s%N:=by
    have:s%N=s-N:=by
     rw[Nat.mod_eq_sub_mod (by omega),Nat.mod_eq_of_lt (by omega)]
    omega
   rw[e2]
theorem ZdS{d:Nat}(h:d<=10):ZA (d:Int)=d:=by unfold ZA;omega
theorem Zjo{d:Nat}(h:d<=10):needD (d:Int)=Z1 d:=by unfold needD Z1;rw[ZdS h]
theorem ZmJ{d:Nat}(h:d<=9):needD ((d:Int)+1)=Z1 (d+1):=by
 have:=Zjo (d:=d+1) (by omega)
 rw[<-this];rfl
theorem Zog{h:List Int->Nat}{e e':Ex}(hcap:pagesOf S.n=(cap:Int))(hH:ZX h e)(hS:Zb3 cap e.nx e.fr)(hF:ZbV S L e.fr)(hT:Zic e M')(hsl:ZbC S L M SL (2^e.d) e.sl)(hd:e.d<10)(hl:e.dir.length=Z1 e.d)(he:e.doubleF cap=some e') :
 ∃(M1:MV) (t:List Nat),Zjh S L M M' SL (e.d:Int) M1 (ZdE (2^e.d) (fun j=>(e.sl j:Int)) (2^e.d) SL) (2^e.d) ((t.map fun q:Nat=>Stp.lay (q:Int) (Zcm 240 0))++Zej (2^e.d) (fun j=>(e.sl j:Int)) (2^e.d))/\Zic e' M1/\M1.c=M'.c/\e'.dir=e.dir++t/\Zb3 cap e'.nx e'.fr/\ZbV S L e'.fr/\(∀x∈t,x<cap)/\ZbC S L M (ZdE (2^e.d) (fun j=>(e.sl j:Int)) (2^e.d) SL) (2^e'.d) e'.sl:=by
 unfold Ex.doubleF at he;rw[Option.map_eq_some_iff]at he;obtain⟨⟨dir',fr',nx'⟩,hr,rfl⟩:=he;have hmono:=Zfa e.d;have hle:=Zcs (d:=e.d+1) (by omega)
 have hfr0:∀x∈e.fr,x≠0:=fun x hx e0=>by
  have:=hH.pg.nodup
  rw[List.nodup_cons]at this;exact this.1 (by rw[<-e0];exact List.mem_append.2 (.inr hx))
 obtain⟨t,e1,e2,h1,h2,h3,h4,h5⟩:=Zqc (M:={M' with d:=M'.d+1}) (L:=L) hcap _ hS hF hfr0 hT.f hT.n hT.l (by show needD (M'.d+1)=_;rw[hT.d,ZmJ (by omega)];omega) hr
 have hbs:∀j,j<2^e.d->e.sl j<cap:=fun j hj=>by
  have hm:e.sl j∈e.pages:=by
   obtain⟨s,hs,e3,hc⟩:=hH.at_ ((hH.sl.bsIs _).2 ⟨j,hj,rfl⟩);obtain⟨ps,t,e4,_⟩:=hc.head;exact List.mem_flatMap.2 ⟨_,(hH.sl.bsIs _).2 ⟨j,hj,rfl⟩,by rw[e4];simp[Zg]⟩
  have:=hH.pg.lt _ (List.mem_cons_of_mem _ (List.mem_append.2 (.inl (List.mem_append.2 (.inr hm)))))
  have:=hS.2.1
  omega
 have hcc:=hS.1;have hdp:ZA M'.d=e.d:=by rw[hT.d];exact ZdS (by omega)
 refine⟨_,t,.inr ⟨hT.d.symm,by rw[hT.d];omega,by rw[hT.d];omega,_,fun j=>(e.sl j:Int),h1,fun j hj=>?_,?_,?_,?_,?_⟩,⟨?_,rfl,rfl,rfl⟩,rfl,e1,h2,h3,h5,?_⟩
 · rw[hdp]at hj
   have:=hbs j hj
   exact⟨hsl j hj,by show(-9223372036854775808:Int)<=(e.sl j:Int);omega,by show(e.sl j:Int)<=9223372036854775807;omega⟩
 · rw[List.length_map,e2];omega
 · rw[hdp]
 · rw[hdp]
 · rw[hdp]
 · show M'.d+1=((e.d+1:Nat):Int);rw[hT.d];simp
 · have:=Zjn hsl
   rw[show 2^e.d+2^e.d=2^(e.d+1)from by rw[Nat.pow_succ];omega]at this;exact this
end
theorem Zoh{ps:List KV}(hok:∀x∈ps,Zh7 x)(hk:(ps.map (·.1)).Nodup):pairsB ps=true:=by
 refine Zf7 fun i hi=>?_
 have hx:ps[i]?=some ps[i]:=ZZc hi;obtain⟨h1,h2,h3⟩:=hok _ (List.getElem_mem hi)
 have hf:findI ps ps[i].1=(i:Int):=ZhN hx rfl fun m y hm hy e=>by
  have hml:m<ps.length:=by omega
  have e1:(ps.map (·.1))[m]'(by simpa using hml)=(ps.map (·.1))[i]'(by simpa using hi):=by
   rw[List.getElem_map,List.getElem_map]
   have:ps[m]=y:=by
    have:=ZZc hml
    rw[this]at hy;exact Option.some.inj hy
   rw[this];exact e
  have:=(List.getElem_inj hk).1 e1
  omega
 rw[Zf6 hx,hf];simp[h1,h2,h3]
theorem Zc8{ps:List KV}{d x:Nat}(hs:szX ps<=232)(hok:∀y∈ps,Zh7 y)(hk:(ps.map (·.1)).Nodup)(hd:d<=10)(hx:x<4294967296):ZD ⟨(d:Int),(x:Int),ps⟩=true:=by
 have h1:8+szP ps<=240:=by have:szP ps=szX ps:=rfl;omega
 have h2:Zj (x:Int) 4=true:=(ZcG _).trans (decide_eq_true (by omega));unfold ZD;simp only[Zoh hok hk,h2,Bool.and_true,Bool.and_eq_true,decide_eq_true_eq];exact⟨⟨h1,by omega⟩,by omega⟩
theorem Zjp{b:Nat}(h:b<=9):ZA ((b:Int)+1)=b+1:=by unfold ZA;omega
theorem ZeH{b:Nat}(h:b<=10):ZJ (b:Int)=b:=Zlr (by omega)
theorem ZmK{b:Nat}(h:b<=9):ZJ ((b:Int)+1)=b+1:=by unfold ZJ;omega
theorem ZeI{b a:Nat}(h:b<=9):ZaC a (b:Int)=(a/2^b%2 == 1):=by
 unfold ZaC slotN;rw[ZmK h,ZeH (by omega),Nat.mod_pow_succ];have hp:0<2^b:=Nat.two_pow_pos b;rcases Nat.mod_two_eq_zero_or_one (a/2^b)with e|e
 · rw[e];simp
 · rw[e,Nat.mul_one,decide_eq_true (by omega)];rfl
theorem ZkM{b:Nat}(h:b<=9)(pg:Int)(ps:List KV):loL pg (b:Int) ps=⟨pg,((b+1:Nat):Int),0,ZoR hashL b ps⟩:=by
 unfold loL ZoR Zdm hiB;simp only[ZeI h];rfl
theorem ZkN{b:Nat}(h:b<=9)(pg:Int)(ps:List KV):hiL pg (b:Int) ps=⟨pg,((b+1:Nat):Int),0,Zg1 hashL b ps⟩:=by
 unfold hiL Zg1 Zdm hiB;simp only[ZeI h];rfl
theorem ZqG{P r j s:Nat}(hr:r<P)(e:s=r+P+j*(P*2)):s%P=r/\s/P%2=1:=by
 have hP:0<P:=by omega
 have e':s=r+P*(1+2*j):=by
  rw[e,Nat.mul_add,Nat.mul_one,Nat.mul_left_comm,Nat.mul_comm j 2,Nat.add_assoc]
 refine⟨by rw[e',Nat.add_mul_mod_self_left,Nat.mod_eq_of_lt hr],?_⟩;rw[e',Nat.add_mul_div_left _ _ hP,Nat.div_eq_of_lt hr];omega
theorem Zhq{P r s:Nat}(h1:s%P=r)(h2:s/P%2=1):s=r+P+(s/P/2)*(P*2):=by
 have h3:=Nat.div_add_mod s P;rw[h1]at h3;generalize s/P=a at h2 h3 ⊢;have h4:a=1+2*(a/2):=by omega
 generalize a/2=c at h4 ⊢;subst h4;rw[Nat.mul_add,Nat.mul_one,<-Nat.mul_assoc]at h3;rw[Nat.mul_comm c (P*2)];omega
section
variable{S:DS}{L:List (Int×List Int)}{M M':MV}{SL:Int->Option Int}{cap nx nx':Nat}{fr fr' dir dir':List Nat}
theorem ZmL{N p q b r K:Nat}{sl:Nat->Nat}(h:ZbC S L M SL N sl)(hsame:∀s,s<N->(sl s=p↔s%2^b=r))(hr:r<2^b)(hK:N<=r+2^b+K*2^(b+1)) :
 ZbC S L M (Zcn (r+2^b) (2^(b+1)) (q:Int) K SL) N (Zbk sl p q b):=fun s hs=>by
 have hP2:2^(b+1)=2^b*2:=Nat.pow_succ ..;rw[hP2]at hK ⊢;by_cases hc:sl s=p/\s/2^b%2=1
 · have e1:Zbk sl p q b s=q:=if_pos hc;rw[e1];have e2:=Zhq ((hsame s hs).1 hc.1) hc.2;refine .inl (if_pos (List.any_eq_true.2 ⟨s/2^b/2,List.mem_range.2 ?_,decide_eq_true (congrArg _ e2)⟩));have hlt:(s/2^b/2)*(2^b*2)<K*(2^b*2):=by omega
   exact Nat.lt_of_mul_lt_mul_right hlt
 · have e1:Zbk sl p q b s=sl s:=if_neg hc;rw[e1]
   have e2:Zcn (r+2^b) (2^b*2) (q:Int) K SL (s:Int)=SL (s:Int):=if_neg fun hany=>by
    obtain⟨j,_,hj⟩:=List.any_eq_true.1 hany;have hj':s=r+2^b+j*(2^b*2):=Int.ofNat.inj (of_decide_eq_true hj);obtain⟨h1,h2⟩:=ZqG hr hj';exact hc ⟨(hsame s hs).2 h1,h2⟩
   rcases h s hs with a|⟨a,b⟩
   · exact .inl (e2.trans a)
   · exact .inr ⟨e2.trans a,b⟩
theorem Zjq{P r j K N:Nat}(hr:r<P)(hj:j<K)(hN:N=K*(P*2)):r+P+j*(P*2)<N:=by
 subst hN
 have:=Nat.mul_le_mul_right (P*2) hj
 rw[Nat.succ_mul]at this;omega
theorem Zpw{e e1:Ex}{p q k:Nat}{key:List Int}{M1:MV}{SL1:Int->Option Int}{ss1:List Stp}(hcap:pagesOf S.n=(cap:Int))(hdbl:Zjh S L M M' SL (e1.bd p:Int) M1 SL1 k ss1)(hMd:Zb1 M'.d)
 (hH:ZX hashL e1) (hS:Zb3 cap e1.nx e1.fr) (hF:ZbV S L e1.fr) (hT:Zic e1 M1) (hsl:ZbC S L M SL1 (2^e1.d) e1.sl) (hk:e1.home hashL key=p) (hb:e1.bd p<e1.d) {ps:List KV} (hch:e1.ch p = [(p,ps)]) (ht:Zd0 cap e1.fr e1.nx=some (q,fr',nx')) :
 Zn8 S L M M' SL ⟨(p:Int),(e1.bd p:Int),0,ps⟩ (hashL key) M1 SL1 k ss1 (q:Int) {M1 with f:=ZaR fr',n:=(nx':Int)} (2^(e1.d-e1.bd p-1))/\
 ZbC S L M (Zcn (slotN (hashL key) (ZJ (e1.bd p:Int))+2^ZA (e1.bd p:Int)) (2^ZA ((e1.bd p:Int)+1)) (q:Int) (2^(e1.d-e1.bd p-1)) SL1) (2^e1.d) (Zbk e1.sl p q (e1.bd p))/\
 Zb3 cap nx' fr'/\ZbV S L fr'/\q<cap/\p<cap:=by
 have hd10:=hH.d;have hp:p∈e1.bs:=by rw[<-hk];exact hH.home_mem key
 have hfr0:∀x∈e1.fr,x≠0:=fun x hx e0=>by
  have:=hH.pg.nodup
  rw[List.nodup_cons]at this;exact this.1 (by rw[<-e0];exact List.mem_append.2 (.inr hx))
 obtain⟨hS1,hq⟩:=hS.next ht
 have hpc:p<cap:=by
  have hm:p∈e1.pages:=List.mem_flatMap.2 ⟨p,hp,by rw[hch];simp[Zg]⟩
  have:=hH.pg.lt _ (List.mem_cons_of_mem _ (List.mem_append.2 (.inl (List.mem_append.2 (.inr hm)))))
  have:=hS.2.1
  omega
 have hcc:=hS.1;have hTk:=ZkL (M:=M1) hcap hF hfr0 hT.f hT.n ht
 have hF1:ZbV S L fr':=by
  rcases takeF_is ht with ⟨e0,_⟩|⟨e0,e2,_⟩
  · rw[e0]at hF;exact hF.tail
  · rw[e2];exact fun i q hq=>by simp at hq
 have hhead:=Zc7 hS;have hhk:e1.sl (hashL key%2^e1.d)=p:=hk
 have hsame:∀s,s<2^e1.d->(e1.sl s=p↔s%2^e1.bd p=hashL key%2^e1.bd p):=fun s hs=>by
  have h1:=hH.sl.same (hashL key%2^e1.d) s (ZbR _ _) hs;rw[hhk,Zam (by omega)]at h1;exact⟨fun e0=>(h1.1 e0.symm).symm,fun e0=>(h1.2 e0.symm).symm⟩
 have hN:2^e1.d=2^(e1.d-e1.bd p-1)*(2^e1.bd p*2):=by
  rw[<-Nat.pow_succ,<-Nat.pow_add]
  congr 1
  omega
 have hr:=ZbR (hashL key) (e1.bd p);have hN10:2^e1.d<=1024:=ZZf (Nat.pow_le_pow_right (by decide) hd10) (by decide);have hPd:2^e1.bd p<=2^e1.d:=Nat.pow_le_pow_right (by decide) (by omega);have hKd:2^(e1.d-e1.bd p-1)<=2^e1.d:=Nat.pow_le_pow_right (by decide) (by omega);have eb:ZA (e1.bd p:Int)=e1.bd p:=ZdS (by omega);have eh:ZJ (e1.bd p:Int)=e1.bd p:=ZeH (by omega);have es:ZA ((e1.bd p:Int)+1)=e1.bd p+1:=Zjp (by omega);have ed:ZA M1.d=e1.d:=by rw[hT.d];exact ZdS hd10
 refine⟨⟨rfl,⟨by show(0:Int)<=(e1.bd p:Int);omega,by show(e1.bd p:Int)<=9;omega⟩,⟨by show(-9223372036854775808:Int)<=(p:Int);omega,by show(p:Int)<=9223372036854775807;omega⟩,hdbl,hMd,by rw[hT.n];have:=hS.2.1;omega,by unfold Zb1;rw[hT.f];omega,hTk,by unfold Zb1;omega,by show 0<=M1.d/\M1.d<=10;rw[hT.d];omega,fun j hj=>?_,?_,?_,?_,by omega⟩,?_,hS1,hF1,hq,hpc⟩
 · show slotN (hashL key) (ZJ (e1.bd p:Int))+2^ZA (e1.bd p:Int)+j*2^ZA ((e1.bd p:Int)+1)<2^ZA M1.d/\ZeF S L M SL1 ((slotN (hashL key) (ZJ (e1.bd p:Int))+2^ZA (e1.bd p:Int)+j*2^ZA ((e1.bd p:Int)+1):Nat):Int) (p:Int);rw[eb,eh,es,ed]
   have hlt:hashL key%2^e1.bd p+2^e1.bd p+j*2^(e1.bd p+1)<2^e1.d:=by
    rw[Nat.pow_succ];exact Zjq hr hj hN
   refine⟨hlt,?_⟩;have hs:=hsl _ hlt;have e0:=(hsame _ hlt).2 (ZqG (j:=j) hr (by rw[Nat.pow_succ])).1;rw[e0]at hs;exact hs
 · show 2^ZA M1.d<=slotN (hashL key) (ZJ (e1.bd p:Int))+2^ZA (e1.bd p:Int)+2^(e1.d-e1.bd p-1)*2^ZA ((e1.bd p:Int)+1);rw[es,ed,Nat.pow_succ,<-hN];exact Nat.le_add_left _ _
 · show slotN (hashL key) (ZJ (e1.bd p:Int))+2^ZA (e1.bd p:Int)+2^(e1.d-e1.bd p-1)*2^ZA ((e1.bd p:Int)+1)<=100000;rw[eb,eh,es,Nat.pow_succ,<-hN];show hashL key%2^e1.bd p+_+_<=_;omega
 · obtain⟨H2,_⟩:=hH.part hp hch hb (takeF_is ht);have hfr:=hH.pg.fresh (takeF_is ht)
   have hpq:p≠q:=fun e'=>hfr.1 (by
    rw[<-e']
    exact List.mem_flatMap.2 ⟨p,hp,by rw[hch];simp[Zg]⟩)
   obtain⟨s0,hs0,e0,hc0⟩:=hH.at_ hp;rw[hch]at hc0;have hsz:=hc0.size (p,ps) List.mem_cons_self;have hpp:Zk [(p,ps)]=ps:=by simp[Zk]
   have hok:=hc0.ok;have hky:=hc0.keys;rw[hpp]at hok hky;have hb9:e1.bd p<=9:=by omega
   have hlo:ZD (loL (p:Int) (e1.bd p:Int) ps).bv=true:=by
    rw[ZkM hb9];exact Zc8 (x:=0) (ZZf (Ze7 List.filter_sublist) hsz) (fun y hy=>hok y ((List.mem_filter.1 hy).1)) (hky.sublist (List.filter_sublist.map _)) (by omega) (by omega)
   have hhi:ZD (hiL (q:Int) (e1.bd p:Int) ps).bv=true:=by
    rw[ZkN hb9];exact Zc8 (x:=0) (ZZf (Ze7 List.filter_sublist) hsz) (fun y hy=>hok y ((List.mem_filter.1 hy).1)) (hky.sublist (List.filter_sublist.map _)) (by omega) (by omega)
   show ZD (if ZaC (hashL key) (e1.bd p:Int)=true then loL (p:Int) (e1.bd p:Int) ps else hiL (q:Int) (e1.bd p:Int) ps).bv=true;split
   · exact hlo
   · exact hhi
 · rw[eb,eh,es];exact ZmL hsl hsame hr (by rw[Nat.pow_succ,<-hN];omega)
end
def Zt(c:Chn)(i:Nat):Nat:=((Zg c)[i+1]?).getD 0
def Ent(e:Ex)(g:Nat)(b:BV):Prop:=∃p∈e.bs,∃i ps,(e.ch p)[i]?=some (g,ps)/\b=⟨(e.bd p:Int),(Zt (e.ch p) i:Int),ps⟩
def ZbW(S:DS)(L:List (Int×List Int))(fr:List Nat):Prop:=∀(i q:Nat),fr[i]?=some q->Zay S L [(q:Int)] 0 ((fr[i+1]?.getD 0:Nat):Int)
structure ZbS(S:DS)(L:List (Int×List Int))(e:Ex)(X:Nat->Prop):Prop where
 pgs:ZdZ S L
 slots:∀s,s<2^e.d->Zay S L (Zch e.dir) s (e.sl s)
 ents:∀g b,Ent e g b->¬X g->Zn S L (g:Int)=(pageBk b,0)
 free:ZbW S L e.fr
structure Fit(M:MV)(e:Ex):Prop where
 l:∃t,M.l=Zch e.dir++t
 d:∃D:Nat,M.d=(D:Int)/\e.d<=D/\D<=10/\M.l.length=Z1 D
section
variable{S:DS}{L:List (Int×List Int)}{M:MV}{e e':Ex}{X X':Nat->Prop}{cap:Nat}{dir:List Nat}{fr fr':List Nat}
theorem ZbW.of(hP:ZdZ S L)(h:ZbW S L fr):ZbV S L fr:=fun i q hq=>(h i q hq).get (n:=0) hP Zoa
theorem ZbW.tail{a:Nat}(h:ZbW S L (a::fr)):ZbW S L fr:=fun i q hq=>h (i+1) q (by simpa using hq)
theorem Zid{s:Nat}(hs:s/60<dir.length):ownD (Zch dir) (s:Int)=((dir[s/60]:Nat):Int):=by
 unfold ownD Zch;have e1:((s:Int)/60).toNat=s/60:=by omega
 rw[e1,List.getElem?_map,ZZc hs];rfl
theorem Zjr{s:Nat}(hs:s/60<dir.length)(t:List Int):ownD (Zch dir++t) (s:Int)=ownD (Zch dir) (s:Int):=by
 unfold ownD;have e1:((s:Int)/60).toNat=s/60:=by omega
 rw[e1,List.getElem?_append_left (by rw[ZaZ];exact hs)]
theorem Zgt{s d:Nat}(hs:s<2^d):s/60<Z1 d:=by
 unfold Z1;generalize 2^d=m at *;omega
theorem Fit.own(h:Fit M e){s:Nat}(hs:s/60<e.dir.length):ownD M.l (s:Int)=ownD (Zch e.dir) (s:Int):=by
 obtain⟨t,ht⟩:=h.l;rw[ht];exact Zjr hs t
theorem Fit.ok(h:Fit M e){s:Nat}(hs:s<2^e.d):okD M.d M.l.length (s:Int)=true:=by
 obtain⟨D,h1,h2,h3,h4⟩:=h.d;have hle:2^e.d<=2^D:=Nat.pow_le_pow_right (by decide) h2;unfold okD;rw[h1,h4,Zjo h3,ZdS h3];refine decide_eq_true ⟨⟨by omega,by omega⟩,⟨by omega,?_⟩,rfl⟩;generalize 2^D=m at *;omega
theorem ZqH(hn:dir.Nodup){s t:Nat}(hs:s/60<dir.length)(ht:t/60<dir.length)(h:ownD (Zch dir) (s:Int)=ownD (Zch dir) (t:Int)):s/60=t/60:=by
 rw[Zid hs,Zid ht]at h;exact(List.getElem_inj hn).1 (Int.ofNat.inj h)
theorem Zie{s:Nat}(hs:s/60<dir.length):∃q∈dir,ownD (Zch dir) (s:Int)=(q:Int):=⟨_,List.getElem_mem hs,Zid hs⟩
theorem Zoi{N:Nat}(hfit:∀s,s<N->okD M.d M.l.length (s:Int)=true/\ownD M.l (s:Int)=ownD (Zch dir) (s:Int)/\s/60<dir.length/\InP S (ownD (Zch dir) (s:Int)))(hn:dir.Nodup){f v:Nat->Nat}:∀(k:Nat),ZdZ S L->(∀i j,i<k->j<k->f i=f j->i=j)->(∀j,j<k->f j<N/\v j<4294967296)->
 (∀st∈(List.range k).map (fun j=>Stp.pt ((f j:Nat):Int) ((v j:Nat):Int)),Zba S M st)/\
 ZdZ S (runS S M L ((List.range k).map (fun j=>Stp.pt ((f j:Nat):Int) ((v j:Nat):Int))))/\
 (∀s x:Nat,s<N->((∃j,j<k/\f j=s/\v j=x)∨((∀j,j<k->f j≠s)/\Zay S L (Zch dir) s (x:Int)))->Zay S (runS S M L ((List.range k).map (fun j=>Stp.pt ((f j:Nat):Int) ((v j:Nat):Int)))) (Zch dir) s (x:Int))/\
 ∀i,(∀s,s<N->ownD (Zch dir) (s:Int)≠i)->Zn S (runS S M L ((List.range k).map (fun j=>Stp.pt ((f j:Nat):Int) ((v j:Nat):Int)))) i=Zn S L i
 | 0,hP,_,_=>by
  refine⟨fun st hst=>by simp at hst,hP,fun s x hs h=>?_,fun i _=>rfl⟩;rcases h with ⟨j,hj,_⟩|⟨_,h⟩
  · omega
  · exact h
 | k+1,hP,hfi,hfv=>by
  obtain⟨h1,h2,h3,h4⟩:=Zoi hfit hn k hP (fun i j hi hj=>hfi i j (by omega) (by omega)) (fun j hj=>hfv j (by omega));have hsplit:(List.range (k+1)).map (fun j=>Stp.pt ((f j:Nat):Int) ((v j:Nat):Int))=(List.range k).map (fun j=>Stp.pt ((f j:Nat):Int) ((v j:Nat):Int))++[Stp.pt ((f k:Nat):Int) ((v k:Nat):Int)]:=by rw[List.range_succ,List.map_append];rfl
  obtain⟨hfk,hvk⟩:=hfv k (by omega);obtain⟨o1,o2,o3,o4⟩:=hfit (f k) hfk;have hst:Zba S M (.pt ((f k:Nat):Int) ((v k:Nat):Int)):=⟨o1,by rw[o2];exact o4,by omega,by omega⟩
  rw[hsplit,ZbA];generalize runS S M L ((List.range k).map (fun j=>Stp.pt ((f j:Nat):Int) ((v j:Nat):Int)))=L1 at h2 h3 h4 ⊢;have hr:∀st,runS S M L1 [st]=(Zby S M L1 st).2:=fun _=>rfl
  rw[hr];obtain⟨_,g2,g3⟩:=Zbj h2 hst;refine⟨fun st hm=>?_,g2,fun s x hs h=>?_,fun i hi=>?_⟩
  · rcases List.mem_append.1 hm with hm|hm
    · exact h1 st hm
    · obtain rfl:=List.mem_singleton.1 hm;exact hst
  · by_cases e:s=f k
    · subst e
      have hv:v k=x:=by
       rcases h with ⟨j,hj,e1,e2⟩|⟨h,_⟩
       · rw[<-e2,hfi j k hj (by omega) e1]
       · exact absurd rfl (h k (by omega))
      subst hv;exact Zay.turned h2 hst o2.symm
    · have hb:Zay S L1 (Zch dir) s (x:Int):=h3 s x hs (by
       rcases h with ⟨j,hj,e1,e2⟩|⟨h,h'⟩
       · exact .inl ⟨j,by
          rcases Nat.lt_or_ge j k with q|q
          · exact q
          · have:j=k:=by omega
            exact absurd (this ▸ e1).symm e,e1,e2⟩
       · exact .inr ⟨fun j hj=>h j (by omega),h'⟩)
      obtain⟨_,_,p3,_⟩:=hfit s hs;refine Zay.beside h2 hb hst fun ho=>?_
      rw[o2]at ho
      have:=ZqH hn p3 o3 ho
      omega
  · rw[g3,if_neg (show ¬i=Zh5 M (.pt ((f k:Nat):Int) ((v k:Nat):Int))from fun e=>?_)]
    · exact h4 i hi
    · refine hi (f k) hfk ?_;rw[e];exact o2.symm
theorem ZbS.step{s:Stp}(h:ZbS S L e X)(hs:Zba S M s)(hd:∀t:Nat,t<2^e.d->ownD (Zch e.dir) (t:Int)≠Zh5 M s)(hX:∀g b,Ent e g b->¬X' g->¬X g/\(g:Int)≠Zh5 M s)(hf:∀q∈e.fr,(q:Int)≠Zh5 M s):ZbS S (Zby S M L s).2 e X':=by
 obtain⟨_,g2,g3⟩:=Zbj h.pgs hs;refine⟨g2,fun t ht=>(h.slots t ht).step h.pgs hs (hd t ht),fun g b hE hx=>?_,fun i q hq=>(h.free i q hq).step h.pgs hs ?_⟩
 · obtain⟨x1,x2⟩:=hX g b hE hx;rw[g3,if_neg x2];exact h.ents g b hE x1
 · exact hf q (List.mem_of_getElem? hq)
theorem ZbS.lay{g:Nat}{b:BV}(h:ZbS S L e X)(hd:e'.d=e.d)(hdir:e'.dir=e.dir)(hsl:∀t:Nat,t<2^e.d->e'.sl t=e.sl t)(hfree:ZbW S L e'.fr)(hs:Zba S M (.lay (g:Int) (pageBk b)))(hE:∀g' b',Ent e' g' b'->¬X' g'->g'≠g->Ent e g' b'/\¬X g')(hg:∀b',Ent e' g b'->b'=b)(hgd:∀t:Nat,t<2^e.d->ownD (Zch e.dir) (t:Int)≠(g:Int))(hgf:g∉e'.fr) :
 ZbS S (Zby S M L (.lay (g:Int) (pageBk b))).2 e' X':=by
 obtain⟨_,g2,g3⟩:=Zbj h.pgs hs;refine⟨g2,fun t ht=>?_,fun g' b' he hx=>?_,fun i q hq=>(hfree i q hq).step h.pgs hs fun e0=>?_⟩
 · rw[hd]at ht;rw[hdir,hsl t ht];exact(h.slots t ht).step h.pgs hs (hgd t ht)
 · rw[g3];by_cases eg:g'=g
   · subst eg;rw[if_pos (show(g':Int)=Zh5 M (.lay (g':Int) (pageBk b))from rfl),hg b' he];rfl
   · rw[if_neg (show ¬(g':Int)=Zh5 M (.lay (g:Int) (pageBk b))from fun e0=>eg (Int.ofNat.inj e0))];obtain⟨x1,x2⟩:=hE g' b' he hx eg;exact h.ents g' b' x1 x2
 · have e1:(q:Int)=(g:Int):=e0;rw[Int.ofNat.inj e1]at hq;exact hgf (List.mem_of_getElem? hq)
end
theorem Zh8.apart{dir pgs fr:List Nat}{nx:Nat}(h:Zh8 dir pgs fr nx):dir.Nodup/\(∀q∈dir,q≠0/\q∉pgs/\q∉fr/\q<nx)/\(∀g∈pgs,g≠0/\g∉dir/\g∉fr/\g<nx)/\∀f∈fr,f≠0/\f∉dir/\f∉pgs/\f<nx:=by
 have h1:=h.nodup;have hlt:=h.lt;rw[List.nodup_cons]at h1;obtain⟨h0,h1⟩:=h1;obtain⟨h2,h3,h4⟩:=List.nodup_append.1 h1;obtain⟨h5,h6,h7⟩:=List.nodup_append.1 h2;have n0:∀x,x∈dir++pgs++fr->x≠0/\x<nx:=fun x hx=>⟨fun e=>h0 (e ▸ hx),hlt x (List.mem_cons_of_mem _ hx)⟩
 refine⟨h5,fun q hq=>?_,fun g hg=>?_,fun f hf=>?_⟩
 · obtain⟨a,b⟩:=n0 q (by simp[hq]);exact⟨a,fun hm=>h7 q hq q hm rfl,fun hm=>h4 q (by simp[hq]) q hm rfl,b⟩
 · obtain⟨a,b⟩:=n0 g (by simp[hg]);exact⟨a,fun hm=>h7 g hm g hg rfl,fun hm=>h4 g (by simp[hg]) g hm rfl,b⟩
 · obtain⟨a,b⟩:=n0 f (by simp[hf]);exact⟨a,fun hm=>h4 f (by simp[hm]) f hf rfl,fun hm=>h4 f (by simp[hm]) f hf rfl,b⟩
theorem Ent.page{e:Ex}{g:Nat}{b:BV}(h:Ent e g b):g∈e.pages:=by
 obtain⟨p,hp,i,ps,hi,_⟩:=h;exact List.mem_flatMap.2 ⟨p,hp,List.mem_map.2 ⟨(g,ps),List.mem_of_getElem? hi,rfl⟩⟩
section
variable{S:DS}{L:List (Int×List Int)}{M:MV}{e e':Ex}{X X':Nat->Prop}{cap:Nat}{dir:List Nat}{fr fr':List Nat}
theorem ZbW.drop:∀{u:List Nat},ZbW S L (u++fr)->ZbW S L fr
 | [],h=>h
 | a::u,h=>ZbW.drop (u:=u) (ZbW.tail (a:=a) h)
theorem Zif{cap nx q nx':Nat}(h:Zd0 cap fr nx=some (q,fr',nx')):∃u,fr=u++fr':=by
 rcases takeF_is h with ⟨rfl,_⟩|⟨rfl,rfl,_⟩
 · exact⟨[q],rfl⟩
 · exact⟨[],rfl⟩
theorem Zoj{cap:Nat}:∀(k:Nat) {dir fr dir' fr':List Nat} {nx nx':Nat},ZmI cap k dir fr nx=some (dir',fr',nx')->∃u,fr=u++fr'
 | 0,dir,fr,dir',fr',nx,nx',h=>by
  simp only[ZmI,Option.some.injEq,Prod.mk.injEq]at h;exact⟨[],h.2.1⟩
 | k+1,dir,fr,dir',fr',nx,nx',h=>by
  unfold ZmI at h
  split at h
  · cases h
  · rename_i q f1 n1 ht
    obtain⟨u,rfl⟩:=Zif ht;obtain⟨u2,rfl⟩:=Zoj k h;exact⟨u++u2,by rw[List.append_assoc]⟩
theorem ZbS.zeros:∀{t:List Nat} {L:List (Int×List Int)},ZbS S L e X->(∀q∈t,InP S (q:Int)/\q∉e.dir/\q∉e.pages/\q∉e.fr)->e.dir.length=Z1 e.d->
 (∀st∈t.map (fun q:Nat=>Stp.lay (q:Int) (Zcm 240 0)),Zba S M st)/\ZbS S (runS S M L (t.map (fun q:Nat=>Stp.lay (q:Int) (Zcm 240 0)))) e X
 | [],L,h,_,_=>⟨fun st hst=>by simp at hst,h⟩
 | q::t,L,h,ht,hl=>by
  obtain⟨q1,q2,q3,q4⟩:=ht q List.mem_cons_self;have hs:Zba S M (.lay (q:Int) (Zcm 240 0)):=⟨q1,by simp[Zcm]⟩
  have h1:ZbS S (Zby S M L (.lay (q:Int) (Zcm 240 0))).2 e X:=h.step hs (fun s hs' e0=>by
   obtain⟨q',hq',e1⟩:=Zie (dir:=e.dir) (s:=s) (by rw[hl];exact Zgt hs');rw[e1]at e0
   exact q2 (by rw[<-Int.ofNat.inj (show(q':Int)=(q:Int)from e0)];exact hq')) (fun g b hE hx=>⟨hx,fun e0=>q3 (by rw[<-Int.ofNat.inj (show(g:Int)=(q:Int)from e0)];exact hE.page)⟩) (fun f hf e0=>q4 (by rw[<-Int.ofNat.inj (show(f:Int)=(q:Int)from e0)];exact hf))
  obtain⟨h2,h3⟩:=ZbS.zeros (t:=t) h1 (fun q' hq'=>ht q' (List.mem_cons_of_mem _ hq')) hl;refine⟨fun st hst=>?_,h3⟩;rw[List.map_cons]at hst;rcases List.mem_cons.1 hst with rfl|hst
  · exact hs
  · exact h2 st hst
theorem ZbS.pts{e0:Ex}(h:ZbS S L e0 X)(hfit:Fit M e')(hn:e'.dir.Nodup)(hlen:e'.dir.length=Z1 e'.d)(hP:∀q∈e'.dir,InP S (q:Int))(k:Nat){f v:Nat->Nat}(hinj:∀i j,i<k->j<k->f i=f j->i=j)(hfv:∀j,j<k->f j<2^e'.d/\v j<4294967296)
 (hs:∀s,s<2^e'.d->(∃j,j<k/\f j=s/\v j=e'.sl s)∨((∀j,j<k->f j≠s)/\Zay S L (Zch e'.dir) s (e'.sl s:Int))) (hE:∀g b,Ent e' g b->¬X' g->Ent e0 g b/\¬X g/\g∉e'.dir) (hF:ZbW S L e'.fr) (hFd:∀q∈e'.fr,q∉e'.dir) :
 (∀st∈(List.range k).map (fun j=>Stp.pt ((f j:Nat):Int) ((v j:Nat):Int)),Zba S M st)/\ZbS S (runS S M L ((List.range k).map (fun j=>Stp.pt ((f j:Nat):Int) ((v j:Nat):Int)))) e' X':=by
 have hin:∀s:Nat,s<2^e'.d->s/60<e'.dir.length:=fun s hs=>by rw[hlen];exact Zgt hs
 have hown:∀s:Nat,s<2^e'.d->∃q∈e'.dir,ownD (Zch e'.dir) (s:Int)=(q:Int):=fun s hs=>Zie (hin s hs)
 obtain⟨h1,h2,h3,h4⟩:=Zoi (S:=S) (L:=L) (M:=M) (dir:=e'.dir) (N:=2^e'.d) (fun s hs=>⟨hfit.ok hs,hfit.own (hin s hs),hin s hs,by obtain⟨q,hq,e1⟩:=hown s hs;rw[e1];exact hP q hq⟩) hn k h.pgs hinj hfv
 have hne:∀g:Nat,g∉e'.dir->∀s:Nat,s<2^e'.d->ownD (Zch e'.dir) (s:Int)≠(g:Int):=fun g hg s hs e1=>by
  obtain⟨q,hq,e2⟩:=hown s hs;rw[e2]at e1;exact hg (by rw[<-Int.ofNat.inj (show(q:Int)=(g:Int)from e1)];exact hq)
 refine⟨h1,h2,fun s hs'=>h3 s _ hs' (hs s hs'),fun g b he hx=>?_,fun i q hq=>?_⟩
 · obtain⟨a,b',c⟩:=hE g b he hx;rw[h4 _ (hne g c)];exact h.ents g b a b'
 · obtain⟨a,b⟩:=hF i q hq;refine⟨a,?_⟩;show Zh6 (Zn S _ (ownD [(q:Int)] 0)).1 _=_;rw[Zc4,h4 _ (hne q (hFd q (List.mem_of_getElem? hq)))];rw[show ownD [(q:Int)] ((0:Nat):Int)=(q:Int)from Zc4 _]at b;exact b
theorem ZbS.double{h:List Int->Nat}{t:List Nat}(hP:S.P=(cap:Int))(hL:ZbS S L e X)(hH:ZX h e)(hH':ZX h e')(hnx:e'.nx<=cap)(hcap:cap<=4294967296)(hd:e.d<10)(hl:e.dir.length=Z1 e.d)(hl':e'.dir.length=Z1 e'.d)(he:e.doubleF cap=some e')(ht:e'.dir=e.dir++t)(hfit:Fit M e') :
 (∀st∈(t.map fun q:Nat=>Stp.lay (q:Int) (Zcm 240 0))++Zej (2^e.d) (fun j=>(e.sl j:Int)) (2^e.d),Zba S M st)/\ZbS S (runS S M L ((t.map fun q:Nat=>Stp.lay (q:Int) (Zcm 240 0))++Zej (2^e.d) (fun j=>(e.sl j:Int)) (2^e.d))) e' X:=by
 unfold Ex.doubleF at he;rw[Option.map_eq_some_iff]at he;obtain⟨⟨dir',fr',nx'⟩,hr,rfl⟩:=he;obtain⟨u,hu⟩:=Zoj _ hr;obtain⟨a1,a2,a3,a4⟩:=hH'.pg.apart;have hpg:({e with d:=e.d+1,sl:=fun s=>e.sl (s%2^e.d),dir:=dir',fr:=fr',nx:=nx'}:Ex).pages=e.pages:=rfl
 have hinp:∀q∈dir',InP S (q:Int):=fun q hq=>by
  have:=(a2 q hq).2.2.2
  have h0:=(a2 q hq).1;have hnx':nx'<=cap:=hnx;unfold InP;rw[hP];have h2:q<nx':=this;omega
 have ht':dir'=e.dir++t:=ht;have e0:ZbS S L {e with fr:=fr'} X:=⟨hL.pgs,hL.slots,hL.ents,by have:=hL.free;rw[hu]at this;exact this.drop⟩
 obtain⟨z1,z2⟩:=ZbS.zeros (M:=M) (t:=t) e0 (fun q hq=>by
  have hq':q∈dir':=by rw[ht'];exact List.mem_append.2 (.inr hq)
  refine⟨hinp q hq',fun hm=>?_,(a2 q hq').2.1,(a2 q hq').2.2.1⟩;have hnd:(e.dir++t).Nodup:=by rw[<-ht'];exact a1
  exact(List.nodup_append.1 hnd).2.2 q hm q hq rfl) hl
 rw[ZbA];have hN:2^e.d+2^e.d=2^(e.d+1):=by rw[Nat.pow_succ];omega
 have hslb:∀j,j<2^e.d->e.sl j<4294967296:=fun j hj=>by
  have hm:e.sl j∈e.pages:=by
   obtain⟨s,hs,e3,hc⟩:=hH.at_ ((hH.sl.bsIs _).2 ⟨j,hj,rfl⟩);obtain⟨ps,t,e4,_⟩:=hc.head;exact List.mem_flatMap.2 ⟨_,(hH.sl.bsIs _).2 ⟨j,hj,rfl⟩,by rw[e4];simp[Zg]⟩
  have h2:e.sl j<nx':=(a3 _ hm).2.2.2;have hnx':nx'<=cap:=hnx;omega
 obtain⟨p1,p2⟩:=ZbS.pts (X':=X) z2 hfit a1 hl' hinp (2^e.d) (f:=fun j=>2^e.d+j) (v:=fun j=>e.sl j) (fun i j _ _ h=>by simpa using h) (fun j hj=>⟨by show 2^e.d+j<2^(e.d+1);omega,hslb j hj⟩) (fun s hs=>by
  have hs':s<2^(e.d+1):=hs
  show(∃j,j<2^e.d/\2^e.d+j=s/\e.sl j=e.sl (s%2^e.d))∨((∀j,j<2^e.d->2^e.d+j≠s)/\Zay S _ (Zch dir') s ((e.sl (s%2^e.d):Nat):Int))
  by_cases hlt:s<2^e.d
  · refine .inr ⟨fun j _ h=>by omega,?_⟩;rw[Nat.mod_eq_of_lt hlt];obtain⟨b1,b2⟩:=z2.slots s hlt
    have eo:ownD (Zch dir') (s:Int)=ownD (Zch e.dir) (s:Int):=by
     rw[ht',show Zch (e.dir++t)=Zch e.dir++Zch t from by simp[Zch]];exact Zjr (by rw[hl];exact Zgt hlt) _
    exact⟨by rw[eo];exact b1,by rw[eo];exact b2⟩
  · refine .inl ⟨s-2^e.d,by omega,by omega,?_⟩
    rw[Nat.mod_eq_sub_mod (by omega),Nat.mod_eq_of_lt (by omega)]) (fun g b hE hx=>⟨hE,hx,(a3 g hE.page).2.1⟩) z2.free (fun q hq=>(a4 q hq).2.1)
 exact⟨fun st hst=>by rcases List.mem_append.1 hst with hst|hst;exact z1 st hst;exact p1 st hst,p2⟩
theorem ZbS.part{h:List Int->Nat}{p q nx':Nat}{ps:List KV}(hP:S.P=(cap:Int))(hL:ZbS S L e X)(hX:∀g,X g->g=p)(hH:ZX h e)(hnx:nx'<=cap)(hnx2:e.nx<=cap)(hcap:cap<=4294967296)(hl:e.dir.length=Z1 e.d)(hp:p∈e.bs)(hch:e.ch p = [(p,ps)])(hb:e.bd p<e.d){r:Nat}(hr:r<2^e.bd p)(hsame:∀s,s<2^e.d->(e.sl s=p↔s%2^e.bd p=r))(ht:Zd0 cap e.fr e.nx=some (q,fr',nx'))(hfit:Fit M (e.part h p q ps fr' nx')) :
 (∀st∈ZaQ (r+2^e.bd p) (2^(e.bd p+1)) (q:Int) (2^(e.d-e.bd p-1)),Zba S M st)/\ZbS S (runS S M L (ZaQ (r+2^e.bd p) (2^(e.bd p+1)) (q:Int) (2^(e.d-e.bd p-1)))) (e.part h p q ps fr' nx') (fun g=>g=p∨g=q):=by
 obtain⟨H2,_⟩:=hH.part hp hch hb (takeF_is ht);obtain⟨a1,a2,a3,a4⟩:=H2.pg.apart;obtain⟨b1,b2,b3,b4⟩:=hH.pg.apart;have hfresh:=hH.pg.fresh (takeF_is ht)
 have hqb:q∉e.bs:=fun hm=>by
  refine hfresh.1 ?_;obtain⟨s,hs,e1,hc⟩:=hH.at_ hm;obtain⟨ps',t,e2,_⟩:=hc.head;exact List.mem_flatMap.2 ⟨q,hm,by rw[e2];simp[Zg]⟩
 have hpq:p≠q:=fun e'=>hqb (by rw[<-e'];exact hp)
 have hqc:q<4294967296:=by
  have:q<nx':=(a3 q (List.mem_flatMap.2 ⟨q,List.mem_cons_self,by show q∈Zg (Z5 _ q _ q);rw[ZT];simp[Zg]⟩)).2.2.2
  omega
 have hN:2^e.d=2^(e.d-e.bd p-1)*(2^e.bd p*2):=by
  rw[<-Nat.pow_succ,<-Nat.pow_add]
  congr 1
  omega
 obtain⟨u,hu⟩:=Zif ht;have hfr:ZbW S L fr':=by have:=hL.free;rw[hu]at this;exact this.drop
 have hP0:0<2^e.bd p:=Nat.two_pow_pos _;have hP2:2^(e.bd p+1)=2^e.bd p*2:=Nat.pow_succ ..;refine ZbS.pts (X':=fun g=>g=p∨g=q) hL hfit a1 hl (fun d hd=>?_) (2^(e.d-e.bd p-1)) (f:=fun j=>r+2^e.bd p+j*2^(e.bd p+1)) (v:=fun _=>q) (fun i j _ _ hh=>?_) (fun j hj=>⟨?_,hqc⟩) (fun s hs=>?_) (fun g b hE hx=>?_) hfr (fun f hf=>(a4 f hf).2.1)
 · have:d<e.nx:=(b2 d hd).2.2.2
   have h0:=(b2 d hd).1;unfold InP;rw[hP];omega
 · have h1:i*2^(e.bd p+1)=j*2^(e.bd p+1):=by
    have hh':r+2^e.bd p+i*2^(e.bd p+1)=r+2^e.bd p+j*2^(e.bd p+1):=hh;omega
   exact Nat.eq_of_mul_eq_mul_right (Nat.two_pow_pos _) h1
 · show r+2^e.bd p+j*2^(e.bd p+1)<2^e.d;rw[hP2];exact Zjq hr hj hN
 · have hs':s<2^e.d:=hs
   show(∃j,j<2^(e.d-e.bd p-1)/\r+2^e.bd p+j*2^(e.bd p+1)=s/\q=Zbk e.sl p q (e.bd p) s)∨((∀j,j<2^(e.d-e.bd p-1)->r+2^e.bd p+j*2^(e.bd p+1)≠s)/\Zay S L (Zch e.dir) s ((Zbk e.sl p q (e.bd p) s:Nat):Int))
   rw[hP2];by_cases hc:e.sl s=p/\s/2^e.bd p%2=1
   · have e1:Zbk e.sl p q (e.bd p) s=q:=if_pos hc;have e2:=Zhq ((hsame s hs').1 hc.1) hc.2;refine .inl ⟨s/2^e.bd p/2,?_,e2.symm,e1.symm⟩;have hlt:(s/2^e.bd p/2)*(2^e.bd p*2)<2^(e.d-e.bd p-1)*(2^e.bd p*2):=by rw[<-hN];omega
     exact Nat.lt_of_mul_lt_mul_right hlt
   · have e1:Zbk e.sl p q (e.bd p) s=e.sl s:=if_neg hc;rw[e1];refine .inr ⟨fun j _ hj=>?_,hL.slots s hs'⟩;obtain⟨h1,h2⟩:=ZqG hr hj.symm;exact hc ⟨(hsame s hs').2 h1,h2⟩
 · obtain⟨s,hs,i,ps',hi,rfl⟩:=hE;have hs':s∈q::e.bs:=hs;have hi':(Z5 (Z5 e.ch p [(p,ZoR h (e.bd p) ps)]) q [(q,Zg1 h (e.bd p) ps)] s)[i]?=some (g,ps'):=hi;have hgp:g≠p:=fun e0=>hx (.inl e0)
   have hgq:g≠q:=fun e0=>hx (.inr e0)
   have hone:∀{a:Nat} {z:List KV},[(a,z)][i]?=some (g,ps')->g=a:=fun {a z} hh=>by
    have:=List.mem_of_getElem? hh
    simp at this;exact this.1
   by_cases e1:s=q
   · subst e1;rw[ZT]at hi';exact absurd (hone hi') hgq
   · rw[ZG _ _ e1]at hi';by_cases e2:s=p
     · subst e2;rw[ZT]at hi';exact absurd (hone hi') hgp
     · rw[ZG _ _ e2]at hi';have hsb:s∈e.bs:=by rcases List.mem_cons.1 hs' with a|a;exact absurd a e1;exact a
       have hEe:Ent e g ⟨((Z5 (Z5 e.bd p (e.bd p+1)) q (e.bd p+1) s:Nat):Int),((Zt (Z5 (Z5 e.ch p [(p,ZoR h (e.bd p) ps)]) q [(q,Zg1 h (e.bd p) ps)] s) i:Nat):Int),ps'⟩:=⟨s,hsb,i,ps',hi',by rw[ZG _ _ e1,ZG _ _ e2,ZG _ _ e1,ZG _ _ e2]⟩
       exact⟨hEe,fun hXg=>hgp (hX g hXg),(b3 g hEe.page).2.1⟩
end
section
variable{S:DS}{L:List (Int×List Int)}{M:MV}{e e':Ex}{X X':Nat->Prop}{cap:Nat}{h:List Int->Nat}{p r:Nat}{c:Chn}
theorem Zfb(hH:ZX h e){s g:Nat}(hs:s∈e.bs)(hp:p∈e.bs)(h1:g∈Zg (e.ch s))(h2:g∈Zg (e.ch p)):s=p:=by
 rcases Classical.em (s=p)with e0|e0
 · exact e0
 · exfalso
   have hpg:=hH.pages_at hp;have hn:=hpg.nodup;rw[List.nodup_cons]at hn;have h3:=(List.nodup_append.1 hn.2).1;have h4:=(List.nodup_append.1 h3).2.1;have h5:=(List.nodup_append.1 h4).2.2;refine h5 g h2 g (List.mem_flatMap.2 ⟨s,?_,h1⟩) rfl;exact(List.Nodup.mem_erase_iff hH.sl.once).2 ⟨e0,hs⟩
theorem ZbD(hH:ZX h e)(hp:p∈e.bs):(Zg (e.ch p)).Nodup:=by
 have hn:=(hH.pages_at hp).nodup;rw[List.nodup_cons]at hn;have h3:=(List.nodup_append.1 hn.2).1;have h4:=(List.nodup_append.1 h3).2.1;exact(List.nodup_append.1 h4).1
theorem ZaT(hp:p∈e.bs){g:Nat}(hg:g∈Zg (e.ch p)):g∈e.pages:=List.mem_flatMap.2 ⟨p,hp,hg⟩
theorem ZaA{i g:Nat}{ps:List KV}(hi:c[i]?=some (g,ps)):g∈Zg c:=List.mem_map.2 ⟨(g,ps),List.mem_of_getElem? hi,rfl⟩
theorem ZcL{i g:Nat}{ps:List KV}(hi:c[i]?=some (g,ps)):(Zg c)[i]?=some g:=by
 unfold Zg;rw[List.getElem?_map,hi];rfl
theorem ZbS.setLay{g:Nat}{b:BV}(hP:S.P=(cap:Int))(hL:ZbS S L e X)(hH:ZX h e)(hnx:e.nx<=cap)(hl:e.dir.length=Z1 e.d)(hp:p∈e.bs)(hd:e'.d=e.d)(hdir:e'.dir=e.dir)(hsl:∀t:Nat,t<2^e.d->e'.sl t=e.sl t)(hbs:∀s,s∈e'.bs->s∈e.bs/\(s≠p->e'.bd s=e.bd s/\e'.ch s=e.ch s))(hfree:ZbW S L e'.fr)
 (hX:∀g',X g'->¬X' g'->g'∈Zg (e.ch p)) (hg:g∈Zg (e.ch p)) (hgf:g∉e'.fr) (hb:8+szP b.ps<=240)
 (hc1:∀i g' ps',(e'.ch p)[i]?=some (g',ps')->¬X' g'->g'≠g->(∃j,(e.ch p)[j]?=some (g',ps')/\Zt (e.ch p) j=Zt (e'.ch p) i/\e'.bd p=e.bd p)/\¬X g') (hc2:∀i ps',(e'.ch p)[i]?=some (g,ps')->b=⟨(e'.bd p:Int),(Zt (e'.ch p) i:Int),ps'⟩) :
 Zba S M (.lay (g:Int) (pageBk b))/\ZbS S (Zby S M L (.lay (g:Int) (pageBk b))).2 e' X':=by
 obtain⟨a1,a2,a3,a4⟩:=hH.pg.apart;obtain⟨g0,g1,g2,g3⟩:=a3 g (ZaT hp hg);have hst:Zba S M (.lay (g:Int) (pageBk b)):=⟨⟨by omega,by rw[hP];omega⟩,Zbd hb⟩
 refine⟨hst,hL.lay hd hdir hsl hfree hst (fun g' b' hE hx hne=>?_) (fun b' hE=>?_) (fun t ht e0=>?_) hgf⟩
 · obtain⟨s,hs,i,ps,hi,rfl⟩:=hE;obtain⟨s1,s2⟩:=hbs s hs;by_cases e0:s=p
   · subst e0;obtain⟨⟨j,j1,j2,j3⟩,x1⟩:=hc1 i g' ps hi hx hne;exact⟨⟨s,s1,j,ps,j1,by rw[j2,j3]⟩,x1⟩
   · obtain⟨q1,q2⟩:=s2 e0;rw[q2]at hi;refine⟨⟨s,s1,i,ps,hi,by rw[q1,q2]⟩,fun hXg=>e0 (Zfb hH s1 hp (ZaA hi) (hX g' hXg hx))⟩
 · obtain⟨s,hs,i,ps,hi,rfl⟩:=hE;obtain⟨s1,s2⟩:=hbs s hs;by_cases e0:s=p
   · subst e0;exact(hc2 i ps hi).symm
   · obtain⟨q1,q2⟩:=s2 e0;rw[q2]at hi;exact absurd (Zfb hH s1 hp (ZaA hi) hg) e0
 · obtain⟨q,hq,e1⟩:=Zie (dir:=e.dir) (s:=t) (by rw[hl];exact Zgt ht);rw[e1]at e0;exact g1 (by rw[<-Int.ofNat.inj (show(q:Int)=(g:Int)from e0)];exact hq)
def ZI(b:Nat)(c:Chn):List Zw:=(List.range c.length).map fun i=>⟨((c[i]?.map (·.1)).getD 0:Nat),(b:Int),(Zt c i:Int),(c[i]?.map (·.2)).getD []⟩
theorem Zan(b:Nat)(c:Chn):(ZI b c).length=c.length:=by simp[ZI]
theorem ZaG{b i g:Nat}{ps:List KV}(hi:c[i]?=some (g,ps)):(ZI b c)[i]?=some ⟨(g:Int),(b:Int),(Zt c i:Int),ps⟩:=by
 have hl:=(ZZb.1 hi).1;unfold ZI;rw[List.getElem?_map,List.getElem?_range hl];simp[hi]
theorem Zah{b i:Nat}{l:Zw}(hi:(ZI b c)[i]?=some l):∃g ps,c[i]?=some (g,ps)/\l=⟨(g:Int),(b:Int),(Zt c i:Int),ps⟩:=by
 have hl:i<c.length:=by have:=(ZZb.1 hi).1;rwa[Zan]at this
 have h1:c[i]?=some (c[i].1,c[i].2):=ZZc hl;rw[ZaG h1]at hi;exact⟨_,_,h1,(Option.some.inj hi).symm⟩
theorem Zok{i g:Nat}{ps:List KV}(hi:c[i]?=some (g,ps)):c=c.take i++(g,ps)::c.drop (i+1):=by
 obtain⟨hl,e⟩:=ZZb.1 hi
 have:=List.take_append_drop i c
 rw[List.drop_eq_getElem_cons hl,e]at this;exact this.symm
theorem Zcu{i g:Nat}{ps:List KV}(hi:c[i]?=some (g,ps)):ps.Sublist (Zk c):=by
 rw[Zok hi,Zb2,ZbB];exact(List.sublist_append_left _ _).trans (List.sublist_append_right _ _)
theorem ZeJ{i:Nat}(hc:∀g∈Zg c,g<4294967296):Zt c i<4294967296:=by
 unfold Zt
 cases e:(Zg c)[i+1]? with
 | none=>simp
 | some g=>exact hc g (List.mem_of_getElem? e)
theorem ZeK{b i g:Nat}{ps:List KV}(hc:Zdp h p b r c)(hb:b<=10)(hi:c[i]?=some (g,ps))(hlt:∀g∈Zg c,g<4294967296):ZD ⟨(b:Int),(Zt c i:Int),ps⟩=true:=
 Zc8 (hc.size (g,ps) (List.mem_of_getElem? hi)) (fun y hy=>hc.ok y ((Zcu hi).subset hy)) (hc.keys.sublist ((Zcu hi).map _)) hb (ZeJ hlt)
theorem Zgu{ps:List KV}(h:szX ps<=232):ps.length<=232:=by
 have:∀ps:List KV,ps.length<=szX ps:=by
  intro ps
  induction ps with
  | nil=>exact ZZe _
  | cons a t ih=>rw[List.length_cons];simp only[szX,List.map_cons,List.sum_cons]at ih ⊢;omega
 have:=this ps
 omega
theorem Zig{b:Nat}{x:KV}(hx:Zh7 x)(hc:Zdp h p b r c):Zrh x (ZI b c):=fun j y hj=>by
 obtain⟨g,ps,hi,rfl⟩:=Zah hj;have h1:=hc.size (g,ps) (List.mem_of_getElem? hi);have h2:ps.length<=232:=Zgu h1;obtain⟨x1,x2,x3⟩:=hx;refine⟨?_,by show ps.length<=_;omega⟩;show szP (ps++[x])<=_;rw[ZhL]
 have:szP ps=szX ps:=rfl
 have h1':szX ps<=232:=h1;omega
theorem ZdT{g:Nat}{b:Nat}{n:Int}{x:KV}{ps:List KV}:Zdo x ⟨(g:Int),(b:Int),n,ps⟩↔szX (ps++[x])<=232:=by
 unfold Zdo;show 8+szX (ps++[x])<=240↔_;omega
theorem Zfx{x:KV}:∀{c c':Chn},ZdF c x=some c'->∃a g ps t,c=a++(g,ps)::t/\c'=a++(g,ps++[x])::t/\szX (ps++[x])<=232/\∀y∈a,¬szX (y.2++[x])<=232
 | [],c',hc=>by cases hc
 | (g,ps)::t,c',hc=>by
  unfold ZdF at hc
  split at hc
  · rename_i hs
    exact⟨[],g,ps,t,rfl,(Option.some.inj hc).symm,hs,fun y hy=>absurd hy List.not_mem_nil⟩
  · rename_i hs
    rw[Option.map_eq_some_iff]at hc;obtain⟨c1,h1,rfl⟩:=hc;obtain⟨a,g1,ps1,t1,rfl,rfl,hs1,ha⟩:=Zfx h1;exact⟨(g,ps)::a,g1,ps1,t1,rfl,rfl,hs1,fun y hy=>by rcases List.mem_cons.1 hy with rfl|hy;exact hs;exact ha y hy⟩
theorem Zek{x:KV}:∀{c:Chn},ZdF c x=none->∀y∈c,¬szX (y.2++[x])<=232
 | [],_,y,hy=>absurd hy List.not_mem_nil
 | (g,ps)::t,hc,y,hy=>by
  unfold ZdF at hc
  split at hc
  · cases hc
  · rename_i hs
    rw[Option.map_eq_none_iff]at hc;rcases List.mem_cons.1 hy with rfl|hy
    · exact hs
    · exact Zek hc y hy
end
def ZlA(S:DS)(L:List (Int×List Int))(M M':MV)(SL:Int->Option Int)(x:KV)(n cap:Nat)(e e':Ex)(p:Nat):Prop:=
 ∃(M3:MV) (SL3:Int->Option Int) (k3:Nat) (ss3:List Stp),AddDo S L M x (hashL x.1) n M' SL (ZI (e.bd p) (e.ch p)) M3 SL3 k3 ss3/\Zic e' M3/\M3.c=M'.c/\Zb3 cap e'.nx e'.fr/\((∃t,e'.dir=e.dir++t)/\e.d<=e'.d)/\
  ∀(MF:MV) (L':List (Int×List Int)) (X:Nat->Prop),Fit MF e'->ZbS S L' e X->(∀g',X g'->Zg (e.ch p) = [g'])->(∀st∈ss3,Zba S MF st)/\ZbS S (runS S MF L' ss3) e' (fun _=>False)
theorem Zac{α:Type}(a t:List α)(y:α)(i:Nat):(a++y::t)[i]?=if i<a.length then a[i]? else if i=a.length then some y else t[i-(a.length+1)]?:=by
 by_cases h:i<a.length
 · rw[if_pos h,List.getElem?_append_left h]
 · rw[if_neg h,List.getElem?_append_right (by omega)];by_cases h2:i=a.length
   · rw[if_pos h2,h2,Nat.sub_self];rfl
   · rw[if_neg h2];obtain⟨d,hd⟩:∃d,i-a.length=d+1:=⟨i-a.length-1,by omega⟩
     rw[hd,List.getElem?_cons_succ]
     congr 1
     omega
section
variable{S:DS}{L:List (Int×List Int)}{M M':MV}{SL:Int->Option Int}{e e':Ex}{X X':Nat->Prop}{cap n p:Nat}{x:KV}
theorem Zb3.pages(hS:Zb3 cap e.nx e.fr)(hH:ZX hashL e)(hp:p∈e.bs):∀g∈Zg (e.ch p),g<4294967296/\g<cap:=fun g hg=>by
 have h1:=(hH.pg.apart.2.2.1 g (ZaT hp hg)).2.2.2;have h2:=hS.1;have h3:=hS.2.1;omega
theorem Zjs(hP:S.P=(cap:Int))(hx:Zh7 x)(hH:ZX hashL e)(hl:e.dir.length=Z1 e.d)(hk:e.home hashL x.1=p)(hn:∀y∈e.pairs,y.1≠x.1)(hS:Zb3 cap e.nx e.fr)(hT:Zic e M'){c':Chn}(hc:ZdF (e.ch p) x=some c') :
 ZlA S L M M' SL x n cap e {e with ch:=Z5 e.ch p c'} p:=by
 have hp:p∈e.bs:=by rw[<-hk];exact hH.home_mem x.1
 obtain⟨H2,_,_⟩:=hH.place hx hl hk hn hc;obtain⟨a,g,ps,t,e1,e2,hsz,hfirst⟩:=Zfx hc;obtain⟨s0,hs0,es0,hc0⟩:=hH.at_ hp;obtain⟨s1,hs1,es1,hc1⟩:=H2.at_ hp
 have hc1':Zdp hashL p (e.bd p) s1 c':=by
  have:=hc1
  show Zdp hashL p (e.bd p) s1 c';rw[show({e with ch:=Z5 e.ch p c'}:Ex).ch p=c' from ZT _ _ _]at this;exact this
 have hdeep:=hH.sl.deep p hp;have hd10:=hH.d;have hpg:=hS.pages hH hp;have hpgs:Zg c'=Zg (e.ch p):=by rw[e1,e2];exact ZcK _ _ _ _ _
 have hnx:∀i,Zt c' i=Zt (e.ch p) i:=fun i=>by unfold Zt;rw[hpgs]
 have hm:(e.ch p)[a.length]?=some (g,ps):=by rw[e1,Zac,if_neg (Nat.lt_irrefl _),if_pos rfl]
 have hm':c'[a.length]?=some (g,ps++[x]):=by rw[e2,Zac,if_neg (Nat.lt_irrefl _),if_pos rfl]
 have hoth:∀i,i≠a.length->c'[i]?=(e.ch p)[i]?:=fun i hi=>by
  rw[e1,e2,Zac,Zac];by_cases h:i<a.length
  · rw[if_pos h,if_pos h]
  · rw[if_neg h,if_neg h,if_neg hi,if_neg hi]
 have hmay:ZD ⟨(e.bd p:Int),(Zt (e.ch p) a.length:Int),ps++[x]⟩=true:=by
  have:=ZeK hc1' (by omega) hm' (fun g hg=>(hpg g (by rw[<-hpgs];exact hg)).1)
  rw[hnx]at this;exact this
 have hgp:g∈Zg (e.ch p):=ZaA hm;obtain⟨gl1,gl2⟩:=hpg g hgp;have hnl:Zt (e.ch p) a.length<4294967296:=ZeJ fun g hg=>(hpg g hg).1
 have hLI:Zdn ⟨(g:Int),(e.bd p:Int),(Zt (e.ch p) a.length:Int),ps⟩:=by
  unfold Zdn Zb1
  show((-9223372036854775808:Int)<=(g:Int)/\(g:Int)<=9223372036854775807)/\((-9223372036854775808:Int)<=(e.bd p:Int)/\(e.bd p:Int)<=9223372036854775807)/\((-9223372036854775808:Int)<=(Zt (e.ch p) a.length:Int)/\(Zt (e.ch p) a.length:Int)<=9223372036854775807)
  omega
 refine⟨M',SL,0,[.lay (g:Int) (pageBk ⟨(e.bd p:Int),(Zt (e.ch p) a.length:Int),ps++[x]⟩)],AddDo.fit (m:=a.length) (l:=⟨(g:Int),(e.bd p:Int),(Zt (e.ch p) a.length:Int),ps⟩) (Zig hx hc0) (ZaG hm) (ZdT.2 hsz) (fun j y hj hy=>?_) hLI hmay,⟨hT.d,hT.l,hT.f,hT.n⟩,rfl,hS,⟨⟨[],(List.append_nil _).symm⟩,ZZe _⟩,fun MF L' X hfit hL hX=>?_⟩
 · obtain⟨g',ps',hi,rfl⟩:=Zah hy;rw[ZdT];refine hfirst (g',ps') ?_;rw[e1,Zac,if_pos hj]at hi;exact List.mem_of_getElem? hi
 · have hmb:8+szP (ps++[x])<=240:=by
    have:szP (ps++[x])=szX (ps++[x]):=rfl
    omega
   have hupd:Z5 e.ch p c' p=c':=ZT _ _ _
   obtain⟨h1,h2⟩:=ZbS.setLay (M:=MF) (e':={e with ch:=Z5 e.ch p c'}) (X':=fun _=>False) (g:=g) (b:=⟨(e.bd p:Int),(Zt (e.ch p) a.length:Int),ps++[x]⟩) hP hL hH hS.2.1 hl hp rfl rfl (fun _ _=>rfl) (fun s hs=>⟨hs,fun hne=>⟨rfl,ZG _ _ hne⟩⟩) hL.free (fun g' hg' _=>by rw[hX g' hg'];exact List.mem_singleton.2 rfl) hgp ((hH.pg.apart.2.2.1 g (ZaT hp hgp)).2.2.1) hmb (fun i g' ps' hi _ hne=>by
    rw[show({e with ch:=Z5 e.ch p c'}:Ex).ch p=c' from hupd]at hi ⊢
    have hia:i≠a.length:=fun e0=>by
     rw[e0,hm']at hi;exact hne (congrArg Prod.fst (Option.some.inj hi)).symm
    rw[hoth i hia]at hi
    exact⟨⟨i,hi,(hnx i).symm,rfl⟩,fun hXg=>by
     have h5:=hX g' hXg;rw[h5]at hgp
     exact hne (List.mem_singleton.1 hgp).symm⟩) (fun i ps' hi=>by
    rw[show({e with ch:=Z5 e.ch p c'}:Ex).ch p=c' from hupd]at hi ⊢
    have hia:i=a.length:=by
     have hnd:=ZbD hH hp;rw[<-hpgs]at hnd;have q1:=ZcL hi;have q2:=ZcL hm';obtain⟨l1,v1⟩:=ZZb.1 q1;obtain⟨l2,v2⟩:=ZZb.1 q2;exact(List.getElem_inj hnd).1 (v1.trans v2.symm)
    subst hia;rw[hm']at hi;have hps:ps++[x]=ps':=congrArg Prod.snd (Option.some.inj hi)
    rw[hnx,<-hps])
   exact⟨fun st hst=>by obtain rfl:=List.mem_singleton.1 hst;exact h1,h2⟩
end
end Go.Proofs.YtlmkdmdbpopnhaaGreatDoor
