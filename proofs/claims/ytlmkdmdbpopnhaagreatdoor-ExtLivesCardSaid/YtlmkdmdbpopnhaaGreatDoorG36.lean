/- ExwH, ExwI, ExuE, ExuF, ExuT, ExuV. Conditions: in each theorem. -/
import Derived.Test.YtlmkdmdbpopnhaaGreatDoorG35
import Derived.Test.YtlmkdmdbpopnhaaGreatDoorG33
import Derived.Test.YtlmkdmdbpopnhaaGreatDoorG34
import Derived.Deep.LoopGhost
set_option maxHeartbeats 12800000
set_option maxRecDepth 100000
set_option linter.unusedVariables false
open Go.Proofs.Tryz
open Go.Lib (hid)
namespace Go.Proofs.YtlmkdmdbpopnhaaGreatDoor
open Go.RowKit
section
variable{S:DS}{L:List (Int×List Int)}{M M':MV}{SL:Int->Option Int}{e e':Ex}{X X':Nat->Prop}{cap n p q nx':Nat}{fr':List Nat}{x:KV}
theorem ZmM{c:Chn}{z:List KV}{i:Nat}(hi:i+1<c.length):Zt (c++[(q,z)]) i=Zt c i:=by
 unfold Zt;rw[ZC,List.getElem?_append_left (by simpa[Zg] using hi)]
theorem ZlB{c:Chn}{z:List KV}(hc:0<c.length):Zt (c++[(q,z)]) (c.length-1)=q:=by
 unfold Zt;have hl:(Zg c).length=c.length:=by simp[Zg]
 rw[ZC,List.getElem?_append_right (by rw[hl];omega),hl,show c.length-1+1-c.length=0 from by omega];rfl
theorem Zjt{c:Chn}{z:List KV}:Zt (c++[(q,z)]) c.length=0:=by
 unfold Zt;have hl:(Zg c).length=c.length:=by simp[Zg]
 rw[ZC,List.getElem?_eq_none (by simp[Zg])];rfl
theorem ZcM{c:Chn}(hn:(Zg c).Nodup){i j g:Nat}{a b:List KV}(hi:c[i]?=some (g,a))(hj:c[j]?=some (g,b)):i=j:=by
 obtain⟨l1,v1⟩:=ZZb.1 (ZcL hi);obtain⟨l2,v2⟩:=ZZb.1 (ZcL hj);exact(List.getElem_inj hn).1 (v1.trans v2.symm)
theorem Zhr(hP:S.P=(cap:Int))(hcap:pagesOf S.n=(cap:Int))(hx:Zh7 x)(hH:ZX hashL e)(hl:e.dir.length=Z1 e.d)(hk:e.home hashL x.1=p)(hn:∀y∈e.pairs,y.1≠x.1)(hS:Zb3 cap e.nx e.fr)(hF:ZbV S L e.fr)(hT:Zic e M')(hc:ZdF (e.ch p) x=none)(hb:e.bd p=10)(ht:Zd0 cap e.fr e.nx=some (q,fr',nx')) :
 ZlA S L M M' SL x n cap e {e with ch:=Z5 e.ch p (e.ch p++[(q,[x])]),fr:=fr',nx:=nx'} p:=by
 have hp:p∈e.bs:=by rw[<-hk];exact hH.home_mem x.1
 obtain⟨H2,_⟩:=hH.behind hx hl hk hn hb (takeF_is ht);obtain⟨s0,hs0,es0,hc0⟩:=hH.at_ hp;obtain⟨s1,hs1,es1,hc1⟩:=H2.at_ hp;have hupd:Z5 e.ch p (e.ch p++[(q,[x])]) p=e.ch p++[(q,[x])]:=ZT _ _ _
 have hc1':Zdp hashL p (e.bd p) s1 (e.ch p++[(q,[x])]):=by
  have h1:=hc1;rw[show({e with ch:=Z5 e.ch p (e.ch p++[(q,[x])]),fr:=fr',nx:=nx'}:Ex).ch p=e.ch p++[(q,[x])]from hupd]at h1;exact h1
 obtain⟨hS1,hqc⟩:=hS.next ht;have hcc:=hS.1;have hpg:=hS.pages hH hp;obtain⟨ps0,t0,ec,_,_⟩:=hc0.head;have hlen:0<(e.ch p).length:=by rw[ec];simp
 generalize hC:e.ch p=c at *;obtain⟨gl,psl,hlast⟩:∃g ps,c[c.length-1]?=some (g,ps):=⟨_,_,ZZc (by omega)⟩
 have h0:c[0]?=some (p,ps0):=by rw[ec];rfl
 have hpg':∀g∈Zg (c++[(q,[x])]),g<4294967296:=fun g hg=>by
  rw[ZC]at hg;rcases List.mem_append.1 hg with hg|hg
  · exact(hpg g hg).1
  · have:g=q:=by simpa[Zg] using hg
    omega
 have hl':(c++[(q,[x])])[c.length-1]?=some (gl,psl):=by rw[List.getElem?_append_left (by omega)];exact hlast
 have hq':(c++[(q,[x])])[c.length]?=some (q,[x]):=by rw[List.getElem?_append_right (ZZe _),Nat.sub_self];rfl
 have hm1:ZD ⟨(10:Int),(q:Int),psl⟩=true:=by
  have h1:=ZeK hc1' (by omega) hl' hpg';rw[ZlB hlen,hb]at h1;exact h1
 have hm2:ZD ⟨(10:Int),0,[x]⟩=true:=by
  have h1:=ZeK hc1' (by omega) hq' hpg';rw[Zjt,hb]at h1;exact h1
 have hglp:gl∈Zg c:=ZaA hlast;obtain⟨g1,g2⟩:=hpg gl hglp;have hnl:Zt c (c.length-1)<4294967296:=ZeJ fun g hg=>(hpg g hg).1
 have hfr0:∀y∈e.fr,y≠0:=fun y hy=>(hH.pg.apart.2.2.2 y hy).1
 have hTk:=ZkL (M:=M') hcap hF hfr0 hT.f hT.n ht;have hhead:=Zc7 hS
 have hLI:Zdn ⟨(gl:Int),(e.bd p:Int),(Zt c (c.length-1):Int),psl⟩:=by
  unfold Zdn Zb1
  show((-9223372036854775808:Int)<=(gl:Int)/\(gl:Int)<=9223372036854775807)/\((-9223372036854775808:Int)<=(e.bd p:Int)/\(e.bd p:Int)<=9223372036854775807)/\((-9223372036854775808:Int)<=(Zt c (c.length-1):Int)/\(Zt c (c.length-1):Int)<=9223372036854775807)
  omega
 have hadd:AddDo S L M x (hashL x.1) n M' SL (ZI (e.bd p) c) {M' with f:=ZaR fr',n:=(nx':Int)} SL 0 ([.lay (gl:Int) (pageBk ⟨(e.bd p:Int),(q:Int),psl⟩)]++[.lay (q:Int) (pageBk ⟨(e.bd p:Int),0,[x]⟩)]):=
  AddDo.follow (l0:=⟨(p:Int),(e.bd p:Int),(Zt c 0:Int),ps0⟩) (l:=⟨(gl:Int),(e.bd p:Int),(Zt c (c.length-1):Int),psl⟩) (Zig hx hc0) (fun j y hy=>by
   obtain⟨g',ps',hi,rfl⟩:=Zah hy;rw[ZdT]
   exact Zek hc (g',ps') (List.mem_of_getElem? hi)) (ZaG h0) (by show(e.bd p:Int)=10;omega) (by rw[Zan];exact ZaG hlast) (by rw[hT.n];have:=hS.2.1;omega) (by unfold Zb1;rw[hT.f];omega) hTk (by unfold Zb1;omega) hLI (by show ZD ⟨(e.bd p:Int),(q:Int),psl⟩=true;rw[hb];exact hm1) (by show ZD ⟨(e.bd p:Int),0,[x]⟩=true;rw[hb];exact hm2)
 refine⟨{M' with f:=ZaR fr',n:=(nx':Int)},SL,0,_,by rw[hC];exact hadd,⟨hT.d,hT.l,rfl,rfl⟩,rfl,hS1,⟨⟨[],(List.append_nil _).symm⟩,ZZe _⟩,fun MF L' X hfit hL hX=>?_⟩;rw[hC]at hX;obtain⟨b1,b2,b3,b4⟩:=hH.pg.apart;obtain⟨d1,d2,d3,d4⟩:=H2.pg.apart;obtain⟨u,hu⟩:=Zif ht;have hfr:ZbW S L' fr':=by have:=hL.free;rw[hu]at this;exact this.drop
 have hsub:∀f∈fr',f∈e.fr:=fun f hf=>by rw[hu];exact List.mem_append.2 (.inr hf)
 have hnd:(Zg (c++[(q,[x])])).Nodup:=by
  have h1:=ZbD H2 (p:=p) hp;rw[show({e with ch:=Z5 e.ch p (c++[(q,[x])]),fr:=fr',nx:=nx'}:Ex).ch p=c++[(q,[x])]from hupd]at h1;exact h1
 have hqn:q∉Zg c:=fun hm=>by
  rw[ZC]at hnd;exact(List.nodup_append.1 hnd).2.2 q hm q (by simp[Zg]) rfl
 have hch':({e with ch:=Z5 e.ch p (c++[(q,[x])]),fr:=fr',nx:=nx'}:Ex).ch p=c++[(q,[x])]:=hupd
 have hz1:8+szP psl<=240:=by
  have h1:szX psl<=232:=hc0.size (gl,psl) (List.mem_of_getElem? hlast)
  have:szP psl=szX psl:=rfl
  omega
 have hz2:8+szP [x]<=240:=by
  have h1:szX [x]<=232:=hc1'.size (q,[x]) (by simp)
  have:szP [x]=szX [x]:=rfl
  omega
 obtain⟨h1,h2⟩:=ZbS.setLay (M:=MF) (e':={e with ch:=Z5 e.ch p (c++[(q,[x])]),fr:=fr',nx:=nx'}) (X':=fun g=>g=q) (g:=gl) (b:=⟨(e.bd p:Int),(q:Int),psl⟩) hP hL hH hS.2.1 hl hp rfl rfl (fun _ _=>rfl) (fun s hs=>⟨hs,fun hne=>⟨rfl,ZG _ _ hne⟩⟩) hfr (fun g' hg' _=>by rw[hC,hX g' hg'];exact List.mem_singleton.2 rfl) (by rw[hC];exact hglp) (fun hm=>(b3 gl (ZaT hp (by rw[hC];exact hglp))).2.2.1 (hsub gl hm)) hz1 (fun i g' ps' hi hxq hne=>by
  rw[hch']at hi ⊢
  have hil:i<c.length:=by
   rcases Nat.lt_or_ge i c.length with a|a
   · exact a
   · exfalso
     have hi2:i<(c++[(q,[x])]).length:=(ZZb.1 hi).1
     have:i=c.length:=by rw[List.length_append,List.length_singleton]at hi2;omega
     rw[this,hq']at hi;exact hxq (congrArg Prod.fst (Option.some.inj hi)).symm
  have hil2:i+1<c.length:=by
   rcases Nat.lt_or_ge (i+1) c.length with a|a
   · exact a
   · exfalso
     have:i=c.length-1:=by omega
     rw[this,hl']at hi;exact hne (congrArg Prod.fst (Option.some.inj hi)).symm
  rw[List.getElem?_append_left hil]at hi
  exact⟨⟨i,by rw[hC];exact hi,by rw[hC];exact(ZmM hil2).symm,rfl⟩,fun hXg=>by
   have h5:=hX g' hXg;rw[h5]at hglp
   exact hne (List.mem_singleton.1 hglp).symm⟩) (fun i ps' hi=>by
  rw[hch']at hi ⊢;have hia:=ZcM hnd hi hl';subst hia;rw[hl']at hi;have hps:psl=ps':=congrArg Prod.snd (Option.some.inj hi)
  rw[ZlB hlen,<-hps])
 obtain⟨h3,h4⟩:=ZbS.setLay (M:=MF) (e':={e with ch:=Z5 e.ch p (c++[(q,[x])]),fr:=fr',nx:=nx'}) (p:=p) (X':=fun _=>False) (g:=q) (b:=⟨(e.bd p:Int),0,[x]⟩) hP h2 H2 hS1.2.1 hl hp rfl rfl (fun _ _=>rfl) (fun s hs=>⟨hs,fun _=>⟨rfl,rfl⟩⟩) h2.free (fun g' hg' _=>by
  obtain rfl:g'=q:=hg';rw[hch',ZC]
  simp[Zg]) (by rw[hch',ZC];simp[Zg]) ((d3 q (ZaT (e:={e with ch:=Z5 e.ch p (c++[(q,[x])]),fr:=fr',nx:=nx'}) (p:=p) hp (by rw[hch',ZC];simp[Zg]))).2.2.1) hz2 (fun i g' ps' hi _ hne=>⟨⟨i,hi,rfl,rfl⟩,fun e0=>hne e0⟩) (fun i ps' hi=>by
  rw[hch']at hi ⊢;have hia:=ZcM hnd hi hq';subst hia;rw[hq']at hi;have hps : [x]=ps':=congrArg Prod.snd (Option.some.inj hi);rw[Zjt,<-hps]
  rfl)
 refine⟨fun st hst=>?_,h4⟩;rcases List.mem_append.1 hst with hst|hst
 · obtain rfl:=List.mem_singleton.1 hst;exact h1
 · obtain rfl:=List.mem_singleton.1 hst;exact h3
end
section
variable{S:DS}{L:List (Int×List Int)}{M M':MV}{SL:Int->Option Int}{e e':Ex}{X X':Nat->Prop}{cap n p q nx':Nat}{fr':List Nat}{x:KV}
theorem Fit.back{MF:MV}(h:Fit MF e')(hd:∃t,e'.dir=e.dir++t)(hle:e.d<=e'.d):Fit MF e:=by
 obtain⟨t,ht⟩:=hd;obtain⟨u,hu⟩:=h.l;obtain⟨D,h1,h2,h3,h4⟩:=h.d;exact⟨⟨Zch t++u,by rw[hu,ht];simp[Zch]⟩,D,h1,ZZf hle h2,h3,h4⟩
theorem Zfc(b g:Nat)(ps:List KV):ZI b [(g,ps)] = [⟨(g:Int),(b:Int),0,ps⟩]:=rfl
theorem Zol{g g' i:Nat}{ps ps':List KV}(h : [(g,ps)][i]?=some (g',ps')):i=0/\g'=g/\ps'=ps:=by
 have hi:i=0:=by have:=(ZZb.1 h).1;simpa using this
 subst hi;have h1:(g,ps)=(g',ps'):=by simpa using h
 exact⟨rfl,(congrArg Prod.fst h1).symm,(congrArg Prod.snd h1).symm⟩
theorem Zju{MF:MV}(hP:S.P=(cap:Int))(hH:ZX hashL e)(hl:e.dir.length=Z1 e.d)(hnx:e.nx<=cap){a b d:Nat}{ps:List KV}(ha:a∈e.bs)(hch:e.ch a = [(a,ps)])(hbd:e.bd a=d)(hL:ZbS S L e X)(hX:∀g,X g->g=a∨g=b) :
 Zba S MF (.lay (a:Int) (pageBk ⟨(d:Int),0,ps⟩))/\ZbS S (Zby S MF L (.lay (a:Int) (pageBk ⟨(d:Int),0,ps⟩))).2 e (fun g=>g=b):=by
 have hap:a∈Zg (e.ch a):=by rw[hch];simp[Zg]
 obtain⟨s,_,_,hc⟩:=hH.at_ ha;rw[hch]at hc
 have hz:8+szP ps<=240:=by
  have h1:szX ps<=232:=hc.size (a,ps) List.mem_cons_self
  have:szP ps=szX ps:=rfl
  omega
 refine ZbS.setLay (M:=MF) (e':=e) (p:=a) (X':=fun g=>g=b) (b:=⟨(d:Int),0,ps⟩) hP hL hH hnx hl ha rfl rfl (fun _ _=>rfl) (fun s hs=>⟨hs,fun _=>⟨rfl,rfl⟩⟩) hL.free (fun g' hg' hn=>?_) hap ((hH.pg.apart.2.2.1 a (ZaT ha hap)).2.2.1) hz (fun i g' ps' hi hx hne=>?_) (fun i ps' hi=>?_)
 · rcases hX g' hg' with e0|e0
   · rw[e0];exact hap
   · exact absurd e0 hn
 · rw[hch]at hi;exact absurd (Zol hi).2.1 hne
 · rw[hch]at hi ⊢;obtain⟨rfl,_,rfl⟩:=Zol hi;rw[hbd];rfl
theorem Zom(hP:S.P=(cap:Int))(hcap:pagesOf S.n=(cap:Int))(hx:Zh7 x):∀(n:Nat) {e e':Ex} {p:Nat} {M':MV} {SL:Int->Option Int},ZX hashL e->e.dir.length=Z1 e.d->e.home hashL x.1=p->(∀y∈e.pairs,y.1≠x.1)->Zb3 cap e.nx e.fr->ZbV S L e.fr->Zic e M'->ZbC S L M SL (2^e.d) e.sl->e.addF hashL cap n p x=some e'->ZlA S L M M' SL x n cap e e' p:=by
 intro n
 induction n with
 | zero=>
  intro e e' p M' SL hH hl hk hn hS hF hT hsl he;unfold Ex.addF at he
  split at he
  · rename_i c hc
    obtain rfl:=Option.some.inj he;exact Zjs hP hx hH hl hk hn hS hT hc
  · rename_i hc
    split at he
    · rename_i hb
      rw[Option.map_eq_some_iff]at he;obtain⟨⟨q,fr',nx'⟩,ht,rfl⟩:=he;exact Zhr hP hcap hx hH hl hk hn hS hF hT hc hb ht
    · cases he
 | succ n ih=>
  intro e e' p M' SL hH hl hk hn hS hF hT hsl he;unfold Ex.addF at he
  split at he
  · rename_i c hc
    obtain rfl:=Option.some.inj he;exact Zjs hP hx hH hl hk hn hS hT hc
  · rename_i hc
    split at he
    · rename_i hb
      rw[Option.map_eq_some_iff]at he;obtain⟨⟨q,fr',nx'⟩,ht,rfl⟩:=he;exact Zhr hP hcap hx hH hl hk hn hS hF hT hc hb ht
    · rename_i hb
      dsimp only at he
      split at he
      · cases he
      · rename_i p1 e1 hpt
        have hp:p∈e.bs:=by rw[<-hk];exact hH.home_mem x.1
        have hdeep:=hH.sl.deep p hp;have hd:=hH.d;have hb9:e.bd p<=9:=by omega
        have hone:=hH.one hp (by omega);obtain⟨H1,hl1,hpr,hk1,hbd1⟩:=hH.partF hl hk (by omega) hpt;have hn1:∀y∈e1.pairs,y.1≠x.1:=fun y hy=>hn y (hpr.mem_iff.1 hy)
        obtain⟨s0,hs0,es0,hc0⟩:=hH.at_ hp
        have key:∀(e0:Ex) (M1:MV) (SL1:Int->Option Int) (k:Nat) (ss1:List Stp),ZX hashL e0->e0.dir.length=Z1 e0.d->e0.bs=e.bs->e0.bd=e.bd->e0.ch=e.ch->e0.home hashL x.1=p->e.bd p<e0.d->Zjh S L M M' SL (e.bd p:Int) M1 SL1 k ss1->Zic e0 M1->M1.c=M'.c->Zb3 cap e0.nx e0.fr->ZbV S L e0.fr->ZbC S L M SL1 (2^e0.d) e0.sl->((∃t,e0.dir=e.dir++t)/\e.d<=e0.d)->
         (∀(MF:MV) (L':List (Int×List Int)) (X:Nat->Prop),Fit MF e0->ZbS S L' e X->(∀st∈ss1,Zba S MF st)/\ZbS S (runS S MF L' ss1) e0 X)->
         (match Zd0 cap e0.fr e0.nx with
          | none=>none
          | some (q,fr',nx')=>some (if hashL x.1/2^e.bd p%2=1 then q else p,e0.part hashL p q (Zk (e.ch p)) fr' nx'))=some (p1,e1)->ZlA S L M M' SL x (n+1) cap e e' p:=by
         intro e0 M1 SL1 k ss1 H0 hl0 b1 b2 b3 hk0 hlt hdbl hT0 hc0' hS0 hF0 hsl0 hgr hrun hm
         split at hm
         · cases hm
         · rename_i q fr' nx' ht
           simp only[Option.some.injEq,Prod.mk.injEq]at hm;obtain⟨hp1,rfl⟩:=hm;have hp0:p∈e0.bs:=by rw[b1];exact hp
           have hch0:e0.ch p = [(p,Zk (e.ch p))]:=by rw[b3];exact hone
           have hone':=hone;generalize hps:Zk (e.ch p)=ps at *;have hbd0:e0.bd p=e.bd p:=by rw[b2]
           obtain⟨g1,g2,g3,g4,g5,g6⟩:=Zpw (e:=e0) (M':=M') (key:=x.1) hcap (by rw[hbd0];exact hdbl) (by unfold Zb1;rw[hT.d];omega) H0 hS0 hF0 hT0 hsl0 hk0 (by rw[hbd0];exact hlt) hch0 ht;rw[hbd0]at g1 g2;have hfresh:=H0.pg.fresh (takeF_is ht)
           have hpq:p≠q:=fun e'=>hfresh.1 (by
            rw[<-e']
            exact List.mem_flatMap.2 ⟨p,hp0,by rw[hch0];simp[Zg]⟩)
           have hqP:(e0.part hashL p q ps fr' nx').ch q = [(q,Zg1 hashL (e.bd p) ps)]:=by
            show Z5 _ q _ q=_;rw[ZT,hbd0]
           have hpP:(e0.part hashL p q ps fr' nx').ch p = [(p,ZoR hashL (e.bd p) ps)]:=by
            show Z5 _ q _ p=_;rw[ZG _ _ hpq,ZT,hbd0]
           have hqB:(e0.part hashL p q ps fr' nx').bd q=e.bd p+1:=by
            show Z5 _ q _ q=_;rw[ZT,hbd0]
           have hpB:(e0.part hashL p q ps fr' nx').bd p=e.bd p+1:=by
            show Z5 _ q _ p=_;rw[ZG _ _ hpq,ZT,hbd0]
           have hqM:q∈(e0.part hashL p q ps fr' nx').bs:=List.mem_cons_self;have hpM:p∈(e0.part hashL p q ps fr' nx').bs:=List.mem_cons_of_mem _ hp0
           have hg2:ZbC S L M (Zcn (slotN (hashL x.1) (ZJ (e.bd p:Int))+2^ZA (e.bd p:Int)) (2^ZA ((e.bd p:Int)+1)) (q:Int) (2^(e0.d-e.bd p-1)) SL1) (2^(e0.part hashL p q ps fr' nx').d) (e0.part hashL p q ps fr' nx').sl:=by
            show ZbC S L M _ (2^e0.d) (Zbk e0.sl p q (e0.bd p));rw[hbd0];exact g2
           obtain⟨M3,SL3,k3,ss3,r1,r2,r3,r4,r5,r6⟩:=ih (M':={M1 with f:=ZaR fr',n:=(nx':Int)}) H1 hl1 hk1 hn1 g3 g4 ⟨hT0.d,hT0.l,rfl,rfl⟩ hg2 he
           have hleaf:ZI ((e0.part hashL p q ps fr' nx').bd p1) ((e0.part hashL p q ps fr' nx').ch p1) = [if ZaC (hashL x.1) (e.bd p:Int)=true then hiL (q:Int) (e.bd p:Int) ps else loL (p:Int) (e.bd p:Int) ps]:=by
            rw[<-hp1,ZeI hb9];by_cases hbit:hashL x.1/2^e.bd p%2=1
            · rw[if_pos hbit,if_pos (by rw[hbit];rfl),hqP,hqB,Zfc,ZkN hb9]
            · rw[if_neg hbit,if_neg (by simpa using hbit),hpP,hpB,Zfc,ZkM hb9]
           rw[hleaf]at r1;have hlv:ZI (e.bd p) (e.ch p) = [⟨(p:Int),(e.bd p:Int),0,ps⟩]:=by rw[hone'];exact Zfc _ _ _
           refine⟨M3,SL3,_,_,by rw[hlv];exact AddDo.part (by rw[<-hlv];exact Zig hx hc0) (by rw[ZdT];exact Zek hc (p,ps) (by rw[hone'];exact List.mem_cons_self)) g1 r1,r2,r3.trans hc0',r4,⟨?_,ZZf hgr.2 r5.2⟩,fun MF L' X hfit hL hX=>?_⟩
           · obtain⟨t,ht1⟩:=hgr.1;obtain⟨u,hu⟩:=r5.1;have hu':e'.dir=e0.dir++u:=hu;exact⟨t++u,by rw[hu',ht1,List.append_assoc]⟩
           · have hfit1:=hfit.back r5.1 r5.2;have hfit0:Fit MF e0:=⟨hfit1.l,hfit1.d⟩
             obtain⟨s1,s2⟩:=hrun MF L' X hfit0 hL
             have hsame:∀s,s<2^e0.d->(e0.sl s=p↔s%2^e0.bd p=hashL x.1%2^e0.bd p):=fun s hs=>by
              have h1:=H0.sl.same (hashL x.1%2^e0.d) s (ZbR _ _) hs;have hhk:e0.sl (hashL x.1%2^e0.d)=p:=hk0;rw[hhk,Zam (by rw[hbd0];omega)]at h1;exact⟨fun e0'=>(h1.1 e0'.symm).symm,fun e0'=>(h1.2 e0'.symm).symm⟩
             obtain⟨s3,s4⟩:=ZbS.part (M:=MF) hP s2 (fun g hg=>by
              have h5:=hX g hg;rw[hone']at h5
              simpa[Zg] using h5.symm) H0 g3.2.1 hS0.2.1 hS0.1 hl0 hp0 hch0 (by rw[hbd0];exact hlt) (ZbR (hashL x.1) (e0.bd p)) hsame ht hfit1
             rw[hbd0]at s3 s4
             have espell:ZaQ (slotN (hashL x.1) (ZJ (e.bd p:Int))+2^ZA (e.bd p:Int)) (2^ZA ((e.bd p:Int)+1)) (q:Int) (2^(e0.d-e.bd p-1))=ZaQ (hashL x.1%2^e.bd p+2^e.bd p) (2^(e.bd p+1)) (q:Int) (2^(e0.d-e.bd p-1)):=by
              rw[ZdS (by omega),ZeH (by omega),Zjp hb9];rfl
             show(∀st∈ss1++ZaQ (slotN (hashL x.1) (ZJ (e.bd p:Int))+2^ZA (e.bd p:Int)) (2^ZA ((e.bd p:Int)+1)) (q:Int) (2^(e0.d-e.bd p-1))++[.lay (if ZaC (hashL x.1) (e.bd p:Int)=true then loL (p:Int) (e.bd p:Int) ps else hiL (q:Int) (e.bd p:Int) ps).pg (pageBk (if ZaC (hashL x.1) (e.bd p:Int)=true then loL (p:Int) (e.bd p:Int) ps else hiL (q:Int) (e.bd p:Int) ps).bv)]++ss3,Zba S MF st)/\ZbS S (runS S MF L' (ss1++ZaQ (slotN (hashL x.1) (ZJ (e.bd p:Int))+2^ZA (e.bd p:Int)) (2^ZA ((e.bd p:Int)+1)) (q:Int) (2^(e0.d-e.bd p-1))++[.lay (if ZaC (hashL x.1) (e.bd p:Int)=true then loL (p:Int) (e.bd p:Int) ps else hiL (q:Int) (e.bd p:Int) ps).pg (pageBk (if ZaC (hashL x.1) (e.bd p:Int)=true then loL (p:Int) (e.bd p:Int) ps else hiL (q:Int) (e.bd p:Int) ps).bv)]++ss3)) e' (fun _=>False)
             rw[espell,ZbA,ZbA,ZbA,ZeI hb9]
             have fin:∀(st:Stp) (home:Nat),home=p1->Zba S MF st->ZbS S (Zby S MF (runS S MF (runS S MF L' ss1) (ZaQ (hashL x.1%2^e.bd p+2^e.bd p) (2^(e.bd p+1)) (q:Int) (2^(e0.d-e.bd p-1)))) st).2 (e0.part hashL p q ps fr' nx') (fun g=>g=home)->Zg ((e0.part hashL p q ps fr' nx').ch p1) = [p1]->
              (∀z∈ss1++ZaQ (hashL x.1%2^e.bd p+2^e.bd p) (2^(e.bd p+1)) (q:Int) (2^(e0.d-e.bd p-1))++[st]++ss3,Zba S MF z)/\ZbS S (runS S MF (runS S MF (runS S MF (runS S MF L' ss1) (ZaQ (hashL x.1%2^e.bd p+2^e.bd p) (2^(e.bd p+1)) (q:Int) (2^(e0.d-e.bd p-1)))) [st]) ss3) e' (fun _=>False):=by
              intro st home eh hst hLi hpgs
              obtain⟨f1,f2⟩:=r6 MF _ _ hfit hLi (fun g' hg'=>by
               have e9:g'=p1:=hg'.trans eh
               rw[e9];exact hpgs)
              refine⟨fun z hz=>?_,f2⟩;rcases List.mem_append.1 hz with hz|hz
              · rcases List.mem_append.1 hz with hz|hz
                · rcases List.mem_append.1 hz with hz|hz
                  · exact s1 z hz
                  · exact s3 z hz
                · obtain rfl:=List.mem_singleton.1 hz;exact hst
              · exact f1 z hz
             by_cases hbit:hashL x.1/2^e.bd p%2=1
             · have eb:(hashL x.1/2^e.bd p%2 == 1)=true:=by rw[hbit];rfl
               rw[eb,if_pos rfl,ZkM hb9];rw[if_pos hbit]at hp1;obtain⟨t1,t2⟩:=Zju (MF:=MF) hP H1 hl1 g3.2.1 (a:=p) (b:=q) hpM hpP hpB s4 (fun g hg=>hg);exact fin _ q hp1 t1 t2 (by rw[<-hp1,hqP];rfl)
             · have eb:(hashL x.1/2^e.bd p%2 == 1)=false:=by simpa using hbit
               rw[eb,if_neg (by simp),ZkN hb9];rw[if_neg hbit]at hp1;obtain⟨t1,t2⟩:=Zju (MF:=MF) hP H1 hl1 g3.2.1 (a:=q) (b:=p) hqM hqP hqB s4 (fun g hg=>hg.symm);exact fin _ p hp1 t1 t2 (by rw[<-hp1,hpP];rfl)
        unfold Ex.partF at hpt;by_cases hcd:e.bd p=e.d
        · rw[if_pos hcd]at hpt
          split at hpt
          · cases hpt
          · rename_i e0 hdb
            obtain⟨H0,hl0,d1,b1,b2,b3,hh⟩:=hH.double (by omega) hl hdb;obtain⟨M1,t,z1,z2,z3,z4,z5,z6,z7,z8⟩:=Zog (L:=L) (M:=M) (SL:=SL) hcap hH hS hF hT hsl (by omega) hl hdb;refine key e0 M1 _ _ _ H0 hl0 b1 b2 b3 ((hh x.1).trans hk) (by omega) (by rw[hcd];exact z1) z2 z3 z5 z6 z8 ⟨⟨t,z4⟩,by omega⟩ (fun MF L' X hfit hL=>?_) hpt;exact ZbS.double hP hL hH H0 z5.2.1 hS.1 (by omega) hl hl0 hdb z4 hfit
        · rw[if_neg hcd]at hpt;refine key e M' SL 0 [] hH hl rfl rfl rfl hk (by omega) (.inl ⟨by rw[hT.d];omega,rfl,rfl,rfl,rfl⟩) hT rfl hS hF hsl ⟨⟨[],(List.append_nil _).symm⟩,ZZe _⟩ (fun MF L' X hfit hL=>⟨fun st hst=>absurd hst List.not_mem_nil,hL⟩) hpt
end
section
variable{D:World->(Nat->Prop)->Addr->DS->Prop}{w0 w w':World}{F O:Nat->Prop}{p:Addr}{S:DS}{q r b st ch mb:Nat}{seq:Int}{L:List (Int×List Int)}{M M':MV}{v v' sv:Value}{ns:Nat}{SL:Int->Option Int}{fs:List Value}{ss:List Stp}
theorem ZL.leaf{wc w wr:World}{A:Option Addr}{n c:Nat}{ls:List Zw}(h:ZL wc w (.slice A n c) ls){j:Nat}{y:Zw}(hy:ls[j]?=some y)(hb:Below w.heap.size w wr) :
 ∃g A' n' c',A=some ⟨g,0,none⟩/\g<w.heap.size/\wc.heap.size<=g/\wr.cell? ⟨g,j*4,none⟩=some (.int .i64 y.pg)/\wr.cell? ⟨g,j*4+1,none⟩=some (.int .i64 y.d)/\wr.cell? ⟨g,j*4+2,none⟩=some (.int .i64 y.x)/\wr.cell? ⟨g,j*4+3,none⟩=some (.slice A' n' c')/\n'<=c'/\n'<=maxLen/\Zp wr (fun k=>k<wc.heap.size∨k=g) A' n' y.ps/\n=ls.length:=by
 obtain⟨hnl,hc,hrd⟩:=h.read;have hj:=(ZZb.1 hy).1;obtain⟨g,e,hg,hwg,_,hat⟩:=hrd (by omega);obtain⟨A',n',c',c0,c1,c2,c3,h1,h2,h3⟩:=hat j y hy;exact⟨g,A',n',c',e,hg,hwg,(hb.cell (p:=⟨g,j*4,none⟩) hg).trans c0,(hb.cell (p:=⟨g,j*4+1,none⟩) hg).trans c1,(hb.cell (p:=⟨g,j*4+2,none⟩) hg).trans c2,(hb.cell (p:=⟨g,j*4+3,none⟩) hg).trans c3,h1,h2,h3.below hb,hnl⟩
theorem ZqI(h:ZF w0 w ch st mb M M' v v' sv ns SL fs ss){wc:World}(hGX:∀k,GX ch mb v' sv k->k<wc.heap.size){A ka va:Option Addr}{n c kn kc vn vc:Nat}{ls:List Zw}(hch:ZL wc w (.slice A n c) ls)(hnl:n<=4294967296){x:KV}(hk:BIn w (GX ch mb v' sv) ka kn x.1)(hv:BIn w (GX ch mb v' sv) va vn x.2)(hkc:kn<=kc/\kn<=maxLen)(hvc:vn<=vc/\vn<=maxLen)
 {m:Nat} {l:Zw} (hml:ls[m]?=some l) (hfit:8+szP (l.ps++[x])<=240) (hnot:∀(j:Nat) (y:Zw),j<m->ls[j]?=some y->¬8+szP (y.ps++[x])<=240) (hsz:∀(j:Nat) (y:Zw),ls[j]?=some y->szP (y.ps++[x])<=4611686018427387904/\y.ps.length<=4294967295)
 (hlpg : -9223372036854775808<=l.pg/\l.pg<=9223372036854775807) (hd : -9223372036854775808<=l.d/\l.d<=9223372036854775807) (hx : -9223372036854775808<=l.x/\l.x<=9223372036854775807) (hmay:ZD ⟨l.d,l.x,l.ps++[x]⟩=true) (hmm:fs.length+1<=4000000) :
 Calls prog 160 #[.pointer (some ⟨ch,0,none⟩),.slice A n c,.agg #[.slice ka kn kc,.slice va vn vc]] w fun e w'=>e=.returned (.int .i64 0)/\∃sv2 f,ZF w0 w' ch st mb M M' v v' sv2 ns SL (fs++[f]) (ss++[.lay l.pg (pageBk ⟨l.d,l.x,l.ps++[x]⟩)])/\ZZ w0.heap.size w.heap.size ch mb v' sv v' sv2 fs (fs++[f]) ss (ss++[.lay l.pg (pageBk ⟨l.d,l.x,l.ps++[x]⟩)]) w w':=by
 obtain⟨w1,hw1⟩:∃w1,w1=w.alloc (.cells #[.slice ka kn kc,.slice va vn vc] 65):=⟨_,rfl⟩
 have hb1:Below w.heap.size w w1:=by rw[hw1];exact(Below.refl _ _).alloc (ZZe _) _
 have hs1:w1.heap.size=w.heap.size+1:=by rw[hw1];simp
 have hp1:w1.heap[w.heap.size]?=some (.cells #[.slice ka kn kc,.slice va vn vc] 65 (0,0)):=by rw[hw1];exact heap_alloc_new _ _
 have HC:=hid hch;have HG:=hid h;have HK:=hid hk;have HV:=hid hv;have HB1:=hid hb1;have HP1:=hid hp1;have HLT:=hid h.lt;have HNOT:=hid hnot;have HSZ:=hid hsz;have HML:=hid hml;have HF:=hid hfit
 have hnm:n=ls.length/\m<n:=by
  obtain⟨_,_,_,_,_,_,_,_,_,_,_,_,_,_,e⟩:=hch.leaf hml (Below.refl _ _);exact⟨e,by rw[e];exact(ZZb.1 hml).1⟩
 have hmn:=hnm.2;have HNL:=hid hnm.1;have HGX:=hid hGX;clear hch h hk hv hb1 hp1 hnot hsz hml hfit hnm hGX;go_enter func160,ntmps160;go_wp2_with fail;rw[<-hw1];clear hw1
 go_loopw[1] (fun u wr=>u=.slice A n c/\w1=wr) (fun _ _=>1)
 case atStart=>exact⟨rfl,rfl⟩
 case round=>
  obtain⟨rfl,rfl⟩:=hrel;go_wp2_with fail
  go_loopw[13] (fun i wr=>∃j:Nat,j<=m/\i=.int .i64 j/\Hid (Below w1.heap.size w1 wr)) (fun i _=>m+1-(intOf i).toNat)
  case atStart=>exact⟨0,Nat.zero_le _,rfl,hid (Below.refl _ _)⟩
  case round=>
   obtain⟨j,hj,rfl,hbw⟩:=hrel;have hjn:j<n:=by omega
   have hjn':(j:Int)<(n:Int):=by omega
   obtain⟨y,hy⟩:∃y,ls[j]?=some y:=⟨_,ZZc (by rw[<-HNL.out];exact hjn)⟩
   have hbw0:Below w.heap.size w wr:=HB1.out.trans (hbw.out.mono HB1.out.size);obtain⟨g,A',n',c',rfl,hg,hwg,c0,c1,c2,c3,hc',hn',hst,hnls⟩:=HC.out.leaf hy hbw0;clear hnls;obtain⟨hsz1,hsz2⟩:=HSZ.out j y hy
   have hdo:(j=m/\y=l)∨(j<m/\¬8+szP (y.ps++[x])<=240):=by
    rcases Nat.lt_or_ge j m with q|q
    · exact .inr ⟨q,HNOT.out j y q hy⟩
    · obtain rfl:j=m:=by omega
      have:=HML.out
      rw[hy]at this;exact .inl ⟨rfl,Option.some.inj this⟩
   have HDO:=hid hdo;obtain⟨ypg,yd,yx,yps⟩:=y;simp only at c0 c1 c2 hst hsz1 hsz2;have hn2:n'<=4294967296:=by have:=hst.now.1;omega
   obtain⟨w2,hw2⟩:∃w2,w2=wr.alloc (.cells #[.int .i64 ypg,.int .i64 yd,.int .i64 yx,.slice A' n' c'] 104):=⟨_,rfl⟩
   have hba:Below wr.heap.size wr w2:=by rw[hw2];exact(Below.refl _ _).alloc (ZZe _) _
   have hz2:w2.heap.size=wr.heap.size+1:=by rw[hw2];simp
   have hbx:w2.heap[wr.heap.size]?=some (.cells #[.int .i64 ypg,.int .i64 yd,.int .i64 yx,.slice A' n' c'] 104 (0,0)):=by rw[hw2];exact heap_alloc_new _ _
   have hX2:Below w.heap.size w w2:=hbw0.trans (hba.mono hbw0.size);have hsw:=hbw0.size;have hsw1:=hbw.out.size;have hpx:w2.heap[w.heap.size]?=some (.cells #[.slice ka kn kc,.slice va vn vc] 65 (0,0)):=(hba.block _ (by omega)).trans ((hbw.out.block _ (by omega)).trans HP1.out);obtain⟨z0,z1,z2,z3,_,_⟩:=Za hbx;have p0:w2.cell? ⟨w.heap.size,0,none⟩=some (.slice ka kn kc):=by rw[cell_of_row _ _ 0 _ _ (0,0) hpx];rfl
   have p1:w2.cell? ⟨w.heap.size,1,none⟩=some (.slice va vn vc):=by rw[cell_of_row _ _ 1 _ _ (0,0) hpx];rfl
   have hst2:Zp w2 (fun k=>GX ch mb v' sv k∨k=wr.heap.size) A' n' yps:=hst.grow hba.size (fun k hk _=>hba.block k hk) (fun k hk hn hg2=>by
    rcases hg2 with e|e
    · exact hn (.inl (HGX.out k e))
    · omega)
   have hin:∀k,k<w.heap.size->¬GX ch mb v' sv k->¬(GX ch mb v' sv k∨k=wr.heap.size):=fun k hk hn hg2=>by
    rcases hg2 with e|e
    · exact hn e
    · omega
   have hk2:=HK.out.grow (G':=fun k=>GX ch mb v' sv k∨k=wr.heap.size) hX2.size (fun k hk _=>hX2.block k hk) hin;have hv2:=HV.out.grow (G':=fun k=>GX ch mb v' sv k∨k=wr.heap.size) hX2.size (fun k hk _=>hX2.block k hk) hin
   have HWITH:=hid (Zc0 (l:=⟨ypg,yd,yx,yps⟩) hc' hst2 (fun k hk=>by
    rcases hk with e|e
    · have:=(HLT.out k e).2;omega
    · omega) hk2 hv2 hkc hvc hn2)
   have HX2:=hid hX2;have HBX:=hid hbx;have HZ:=hid (ZZg hz2 (ZZg hsw1 hbw.out));have HSZ1:=hid hsz1;have HBA:=hid hba;clear hy hdo hst hst2 hk2 hv2 hin hba hbx hX2 hpx hbw0 hsz1 hsz2 hbw;have p0':=p0;have p1':=p1;rw[hw2]at p0' p1';go_wp2_with fail;rw[<-hw2];clear hw2 p0' p1';refine HWITH.out.mono ?_;rintro e w3⟨lv,rfl,⟨A3,n3,c3,rfl,hc3,hn3,hst3⟩,hb3⟩;simp only at hst3;have hbx3:=(hb3.block wr.heap.size (by have:=HZ.out.1;omega)).trans HBX.out;obtain⟨_,_,_,_,fz,_⟩:=Za hbx3;have f0:=fz 0;have f1:=fz 1;have f2:=fz 2;have f3:=fz 3;obtain⟨w4,hw4⟩:∃w4,w4=((((w3.setCell ⟨wr.heap.size,0,none⟩ (.int .i64 ypg)).setCell ⟨wr.heap.size,1,none⟩ (.int .i64 yd)).setCell ⟨wr.heap.size,2,none⟩ (.int .i64 yx)).setCell ⟨wr.heap.size,3,none⟩ (.slice A3 n3 c3)):=⟨_,rfl⟩
   have hb4:Below w.heap.size w w4:=by rw[hw4];exact Zag (HX2.out.trans (hb3.mono HX2.out.size)) hsw _ _ _ _
   have hbx4:w4.heap[wr.heap.size]?=some (.cells #[.int .i64 ypg,.int .i64 yd,.int .i64 yx,.slice A3 n3 c3] 104 (0,0)):=by rw[hw4];exact Zbf hbx3 _ _ _ _
   have hst4:Zp w4 (fun k=>GX ch mb v' sv k∨k=wr.heap.size) A3 n3 (yps++[x]):=by
    rw[hw4];exact(((hst3.setCell (p:=⟨wr.heap.size,0,none⟩) (.inr rfl) _).setCell (p:=⟨wr.heap.size,1,none⟩) (.inr rfl) _).setCell (p:=⟨wr.heap.size,2,none⟩) (.inr rfl) _).setCell (p:=⟨wr.heap.size,3,none⟩) (.inr rfl) _
   have hb14:Below w1.heap.size w1 w4:=by
    rw[hw4];exact Zag (HZ.out.2.2.trans ((HBA.out.trans (hb3.mono HBA.out.size)).mono HZ.out.2.1)) HZ.out.2.1 _ _ _ _
   obtain⟨y0,y1,y2,y3,_,_⟩:=Za hbx4;have HFIT:=hid (ZhW (c:=c3) (l:=⟨ypg,yd,yx,yps++[x]⟩) hst4 hn3 HSZ1.out);have H4:=hid (ZZg hb4 (ZZg hb14 (ZZg hst4 hbx4)));rw[hw4]at y0 y1 y2 y3;clear hb3 hbx3 fz hst3 hb4 hb14 hbx4 hst4 z0 z1 z2 z3 p0 p1;go_wp2_with fail;rw[<-hw4];clear hw4 y0 y1 y2 y3 f0 f1 f2 f3;refine HFIT.out.mono ?_;rintro e w5⟨rfl,hb5⟩;obtain⟨k4,k14,kst,kbx⟩:=H4.out;have hb05:=k4.trans (hb5.mono k4.size);have hbx5:=(hb5.block wr.heap.size (ZZa.1 kbx).1).trans kbx;obtain⟨y0,y1,y2,y3,_,_⟩:=Za hbx5;rcases HDO.out with ⟨rfl,e⟩|⟨hjm,e⟩
   · obtain⟨rfl,rfl,rfl,rfl⟩:ypg=l.pg/\yd=l.d/\yx=l.x/\yps=l.ps:=by rw[<-e];exact⟨rfl,rfl,rfl,rfl⟩
     have hft:decide (8+szP (l.ps++[x])<=240)=true:=decide_eq_true HF.out;rw[show decide (8+szP (⟨l.pg,l.d,l.x,l.ps++[x]⟩:Zw).ps<=240)=true from hft];have HKP:=hid (ZcI (HG.out.keep hb05) (l:=⟨l.pg,l.d,l.x,l.ps++[x]⟩) ⟨A3,n3,c3,rfl,hc3,hn3,kst.below hb5⟩ hlpg hd hx hmay hmm);have HB5:=hid hb05;clear e hft k4 k14 kst kbx hb05 hbx5 hb5 HWITH HFIT H4;go_wp2_with fail;refine HKP.out.mono ?_;rintro e w6⟨rfl,sv2,f,hg6,hw6⟩;have HE:=hid (ZZg hg6 ((ZZ.below HB5.out).trans (hw6.mono HB5.out.size)));clear hg6 hw6 HKP;go_wp2_with fail;go_ret;exact⟨rfl,sv2,f,HE.out.1,HE.out.2⟩
   · have hff:decide (8+szP (yps++[x])<=240)=false:=decide_eq_false e;rw[show decide (8+szP (⟨ypg,yd,yx,yps++[x]⟩:Zw).ps<=240)=false from hff];have HE:=hid (k14.trans (hb5.mono k14.size));clear e hff k4 k14 kst kbx hb05 hbx5 hb5 HWITH HFIT H4 y0 y1 y2 y3;go_wp2_with fail;go_roundw
     case rel=>exact⟨j+1,by omega,by go_num,HE⟩
     case measure=>simp[intOf];omega
end
section
variable{D:World->(Nat->Prop)->Addr->DS->Prop}{w0 w w':World}{F O:Nat->Prop}{p:Addr}{S:DS}{q r b st ch mb:Nat}{seq:Int}{L:List (Int×List Int)}{M M':MV}{v v' sv:Value}{ns:Nat}{SL:Int->Option Int}{fs:List Value}{ss:List Stp}
structure Za0(S:DS)(L:List (Int×List Int))(M:MV)(key:List Int)(pg:Int)(ls:List Zw):Prop where
 dir:Zaz S L M.d M.l.length M.l ((slotN (hashL key) (ZJ M.d):Nat):Int)=(pg,0)
 ok:ZeY S L M.d pg ls
 few:(ls.length:Int)<=pagesOf S.n
 all:pagesOf S.n<=4294967296
theorem ZL.poke{wc w:World}{u:Value}{ls:List Zw}(h:ZL wc w u ls){a:Addr}(ha:a.block<wc.heap.size)(z:Value):ZL wc (w.setCell a z) u ls:=
 ZbL.keep (R:=Zms) ZcE h (by simp[World.setCell]) (fun _ _ h=>h) (fun k _ hn=>Below.heap_setCell w a z k (fun e=>hn (.inl (by omega)))) (fun r hr=>⟨Below.heap_setCell w a z r (fun e=>by have:=(h.at_ r hr).1;omega),.inr hr⟩)
theorem ZqJ(api:Zb D)(hS:SAt D w0 F O p S q seq r b st L)(h:ZF w0 w ch st mb M M' v v' sv ns SL fs ss){ka va:Option Addr}{kn kc vn vc:Nat}{x:KV}(hk:BIn w (GX ch mb v' sv) ka kn x.1)(hv:BIn w (GX ch mb v' sv) va vn x.2)(hkc:kn<=kc/\kn<=maxLen)(hvc:vn<=vc/\vn<=maxLen)
 {pg:Int} {ls:List Zw} (hc:Za0 S L M' x.1 pg ls) (hno:∀(m:Nat) (l:Zw),ls[m]?=some l->findI l.ps x.1<0) (hcnt : -9223372036854775808<=M'.c/\M'.c<9223372036854775807)
 {m:Nat} {l:Zw} (hml:ls[m]?=some l) (hfit:8+szP (l.ps++[x])<=240) (hnot:∀(j:Nat) (y:Zw),j<m->ls[j]?=some y->¬8+szP (y.ps++[x])<=240) (hsz:∀(j:Nat) (y:Zw),ls[j]?=some y->szP (y.ps++[x])<=4611686018427387904/\y.ps.length<=4294967295)
 (hlpg : -9223372036854775808<=l.pg/\l.pg<=9223372036854775807) (hd : -9223372036854775808<=l.d/\l.d<=9223372036854775807) (hx : -9223372036854775808<=l.x/\l.x<=9223372036854775807) (hmay:ZD ⟨l.d,l.x,l.ps++[x]⟩=true) (hmm:fs.length+1<=4000000) :
 Calls prog 100 #[.pointer (some ⟨ch,0,none⟩),.agg #[.slice ka kn kc,.slice va vn vc]] w fun e w'=>e=.returned (.int .i64 0)/\∃sv2 f,ZF w0 w' ch st mb M {M' with c:=M'.c+1} v v' sv2 ns SL (fs++[f]) (ss++[.lay l.pg (pageBk ⟨l.d,l.x,l.ps++[x]⟩)]):=by
 obtain⟨A',c',hv'e,hc',hri⟩:=h.ri;have hfew:=h.few;obtain⟨w1,hw1⟩:∃w1,w1=w.alloc (.cells #[.slice ka kn kc,.slice va vn vc] 65):=⟨_,rfl⟩
 have hb1:Below w.heap.size w w1.drew:=by rw[hw1];exact((Below.refl _ _).alloc (ZZe _) _).drew
 have hz1:w1.drew.heap.size=w.heap.size+1:=by rw[hw1];show(w.alloc _).heap.size=_;simp
 have hp1:w1.drew.heap[w.heap.size]?=some (.cells #[.slice ka kn kc,.slice va vn vc] 65 (0,0)):=by rw[hw1];exact heap_alloc_new w _
 have hg1:=h.keep hb1;obtain⟨_,_,_,_,_,y6,y7,y8,y9,y10,_⟩:=hg1.at_.cells2;have y0:=hg1.at_.cells.1;rw[hv'e]at y10;have p0:w1.drew.cell? ⟨w.heap.size,0,none⟩=some (.slice ka kn kc):=by rw[cell_of_row _ _ 0 _ _ (0,0) hp1];rfl
 have hk1:=hk.below hb1;have HZ2:=hid (show ∀W,Below w1.drew.heap.size w1.drew W->W.cell? ⟨ch,0,none⟩=some (.pointer (some ⟨st,0,none⟩))/\W.cell? ⟨ch,6,none⟩=some (.int .i64 M'.d)/\W.cell? ⟨ch,7,none⟩=some (.int .i64 M'.f)/\W.cell? ⟨ch,8,none⟩=some (.int .i64 M'.n)/\W.cell? ⟨ch,9,none⟩=some (.int .i64 M'.c)/\W.cell? ⟨ch,10,none⟩=some (.slice A' M'.l.length c')/\W.cell? ⟨w.heap.size,0,none⟩=some (.slice ka kn kc)from fun W hb2=>⟨(hb2.cell (p:=⟨ch,0,none⟩) (World.block_lt_of_cell? _ _ y0)).trans y0,(hb2.cell (p:=⟨ch,6,none⟩) (World.block_lt_of_cell? _ _ y6)).trans y6,(hb2.cell (p:=⟨ch,7,none⟩) (World.block_lt_of_cell? _ _ y7)).trans y7,(hb2.cell (p:=⟨ch,8,none⟩) (World.block_lt_of_cell? _ _ y8)).trans y8,(hb2.cell (p:=⟨ch,9,none⟩) (World.block_lt_of_cell? _ _ y9)).trans y9,(hb2.cell (p:=⟨ch,10,none⟩) (World.block_lt_of_cell? _ _ y10)).trans y10,(hb2.cell (p:=⟨w.heap.size,0,none⟩) (World.block_lt_of_cell? _ _ p0)).trans p0⟩);have HCH:=hid (ZaX api ((hS.below api h.bel).below api hb1) M'.d M'.f M'.n M'.c (A0:=A') (cap:=c') (Kc:=kc) pg (hri.below hb1) hb1.size hc' (by unfold maxLen;omega) hk1.1 (ZZe _) hkc.2 hc.dir hc.ok hc.few hc.all);have HG:=hid h;have HB1:=hid hb1;have HK:=hid hk;have HV:=hid hv;have HP1:=hid hp1;have HZ1:=hid hz1;have HLT:=hid h.lt;have HNO:=hid hno;have hlen:ls.length<=4294967296:=by have:=hc.few;have:=hc.all;omega
 have HADD:=hid (show ∀(w2 wc:World) (A:Option Addr) (n c:Nat),ZF w0 w2 ch st mb M {M' with c:=M'.c+1} v v' sv ns SL fs ss->(∀k,GX ch mb v' sv k->k<wc.heap.size)->ZL wc w2 (.slice A n c) ls->n<=4294967296->BIn w2 (GX ch mb v' sv) ka kn x.1->BIn w2 (GX ch mb v' sv) va vn x.2->
  Calls prog 160 #[.pointer (some ⟨ch,0,none⟩),.slice A n c,.agg #[.slice ka kn kc,.slice va vn vc]] w2 fun e w'=>e=.returned (.int .i64 0)/\∃sv2 f,ZF w0 w' ch st mb M {M' with c:=M'.c+1} v v' sv2 ns SL (fs++[f]) (ss++[.lay l.pg (pageBk ⟨l.d,l.x,l.ps++[x]⟩)])from
  fun w2 wc A n c hg hGX hch hn hk hv=>(ZqI hg hGX hch hn hk hv hkc hvc hml hfit hnot hsz hlpg hd hx hmay hmm).mono fun e w' z=>⟨z.1,by obtain⟨_,sv2,f,z1,_⟩:=z;exact⟨sv2,f,z1⟩⟩)
 have wrc:IntKind.i64.wrap (M'.c+1)=M'.c+1:=by rw[IntKind.wrap_i64];first|(unfold wrap64;omega)|omega
 clear h hk hv hb1 hp1 hg1 hk1 hno hml hfit hnot hsz hlpg hd hx hmay hc hri hS hz1;go_enter func100,ntmps100;go_wp2_with fail;rw[<-hw1];clear hw1
 go_region_held3 (fun W=>W.cell? ⟨ch,0,none⟩=some (.pointer (some ⟨st,0,none⟩))/\W.cell? ⟨ch,6,none⟩=some (.int .i64 M'.d)/\W.cell? ⟨ch,7,none⟩=some (.int .i64 M'.f)/\W.cell? ⟨ch,8,none⟩=some (.int .i64 M'.n)/\W.cell? ⟨ch,9,none⟩=some (.int .i64 M'.c)/\W.cell? ⟨ch,10,none⟩=some (.slice A' M'.l.length c')/\W.cell? ⟨w.heap.size,0,none⟩=some (.slice ka kn kc))
  (first|with_reducible exact z2|exact⟨y0,y6,y7,y8,y9,y10,p0⟩)
  (first
   | (go_at_call 101;refine HCH.out.mono ?_;rintro e w2 ⟨A2,c2,rfl,hch2,hb2⟩;have z2:=HZ2.out w2 hb2))
 obtain⟨_,_,_,_,_,_,p2⟩:=z2;have hk2:=((HK.out.below HB1.out).below hb2)
 have HFI:=hid (ZaW (Kc:=kc) hch2 hk2.1 (ZZe _) hlen);have HCH2:=hid hch2;have HB2:=hid hb2;clear HCH hch2 hb2 hk2 y0 y6 y7 y8 y9 y10 p0 HZ2;go_wp2_with fail;refine HFI.out.mono ?_;rintro e w3⟨a,i,rfl,hfr,hb3⟩
 obtain⟨rfl,rfl⟩:a=0/\i = -1:=by
  rcases hfr with ⟨e1,e2,_⟩|⟨mm,ll,_,e1,e2,e3,_⟩
  · exact⟨e1,e2⟩
  · have:=HNO.out mm ll e1
    omega
 have hb13:=HB2.out.trans (hb3.mono HB2.out.size);have hb03:=HB1.out.trans (hb13.mono HB1.out.size);have hg3:=HG.out.keep hb03;obtain⟨_,_,_,_,_,_,_,_,x9,_,_⟩:=hg3.at_.cells2;have hat3:=hg3.at_;unfold ZcT at hat3;have f9:w3.frozen? ⟨ch,9,none⟩=false:=by simp[World.frozen?,hat3]
 have hchl:ch<w.heap.size:=(HLT.out ch (.inl rfl)).2;have hcl:ch<w1.drew.heap.size:=ZZd hchl HB1.out.size;have hp3:=(hb13.block w.heap.size (by rw[HZ1.out];omega)).trans HP1.out;obtain⟨w4,hw4⟩:∃w4,w4=w3.setCell ⟨ch,9,none⟩ (.int .i64 (M'.c+1)):=⟨_,rfl⟩
 have hp4:w4.heap[w.heap.size]?=some (.cells #[.slice ka kn kc,.slice va vn vc] 65 (0,0)):=by rw[hw4];exact(Below.heap_setCell _ ⟨ch,9,none⟩ _ _ (by show w.heap.size≠ch;omega)).trans hp3
 have q0:w4.cell? ⟨w.heap.size,0,none⟩=some (.slice ka kn kc):=by rw[cell_of_row _ _ 0 _ _ (0,0) hp4];rfl
 have q1:w4.cell? ⟨w.heap.size,1,none⟩=some (.slice va vn vc):=by rw[cell_of_row _ _ 1 _ _ (0,0) hp4];rfl
 have hsz4:w.heap.size<=w4.heap.size:=by rw[hw4];simpa[World.setCell] using hb03.size
 have hkept:∀k,k<w.heap.size->¬GX ch mb v' sv k->w4.heap[k]?=w.heap[k]?:=fun k hk hn=>by
  rw[hw4];exact(Below.heap_setCell _ ⟨ch,9,none⟩ _ _ (fun e=>hn (.inl e))).trans (hb03.block k hk)
 have HAD:=hid (HADD.out w4 w1.drew A2 ls.length c2 (by rw[hw4];exact hg3.setCount _) (fun k hk=>ZZd (HLT.out k hk).2 HB1.out.size) (by rw[hw4];exact(HCH2.out.below hb3).poke hcl _) hlen (HK.out.grow hsz4 hkept (fun _ _ h=>h)) (HV.out.grow hsz4 hkept (fun _ _ h=>h)));rw[hw4]at q0 q1;clear hfr hb3 hb13 hb03 hg3 hat3 hp3 hp4 hsz4 hkept HFI HADD p2 hcl;go_wp2_with fail;rw[<-hw4];clear hw4 q0 q1 x9 f9;refine HAD.out.mono ?_;rintro e w5⟨rfl,sv2,f,hg5⟩;have HE:=hid hg5;clear hg5 HAD;go_wp2_with fail;go_ret;exact⟨rfl,sv2,f,HE.out⟩
end
def ZkO(w0 w w':World)(ch st mb:Nat)(M M3:MV)(v v' sv:Value)(ns k3:Nat)(SL3:Int->Option Int)(fs:List Value)(ss ss3:List Stp):Prop:=
 ∃v2 sv2 fs2,ZF w0 w' ch st mb M M3 v v2 sv2 (ns+k3) SL3 fs2 (ss++ss3)/\fs2.length<=fs.length+50000/\ZZ w0.heap.size w.heap.size ch mb v' sv v2 sv2 fs fs2 ss (ss++ss3) w w'
structure Zpx(S:DS)(L:List (Int×List Int))(w0 w:World)(ch st mb:Nat)(M M3:MV)(v v' sv:Value)(SL3:Int->Option Int)(fs:List Value)(ss ssF:List Stp)(nsF:Nat)(x:KV)(pk:Value)(pv:Value)(N:Nat)(wr:World)
 (M1:MV) (v1 sv1:Value) (ns1:Nat) (SL1:Int->Option Int) (fs1:List Value) (ss1:List Stp) (ls:List Zw) (A:Option Addr) (n:Nat) (G:Nat->Prop) (k4:Nat) (ss4:List Stp):Prop where
 g:ZF w0 wr ch st mb M M1 v v1 sv1 ns1 SL1 fs1 ss1
 went:ZZ w0.heap.size w.heap.size ch mb v' sv v1 sv1 fs fs1 ss ss1 w wr
 lc:LC wr G A n ls
 gx:∀k,GX ch mb v1 sv1 k->G k
 lt:∀k,G k->k<wr.heap.size
 old:∀k,G k->GX ch mb v' sv k∨w.heap.size<=k
 box:wr.heap[w.heap.size]?=some (.cells #[pk,pv] 65 (0,0))/\¬G w.heap.size
 do_:AddDo S L M x (hashL x.1) N M1 SL1 ls M3 SL3 k4 ss4
 ns:ns1+k4=nsF
 ss:ss1++ss4=ssF
 fsm:fs1.length+4000*N+10<=fs.length+49000
 nsm:ns1+2048*N<=3900000
 few:ls.length<=4294967296
theorem Zqd{a b N:Nat}(h:a+4000*(N+1)+10<=b+49000)(hb:b<=3900000):a+4000<=3999999:=by omega
theorem Zjh.few{S:DS}{L:List (Int×List Int)}{M M':MV}{SL:Int->Option Int}{d:Int}{M1:MV}{SL1:Int->Option Int}{k:Nat}{ss1:List Stp}(h:Zjh S L M M' SL d M1 SL1 k ss1):k<=1024:=by
 rcases h with ⟨_,_,_,e,_⟩|⟨_,_,_,_,_,_,_,_,_,e,_⟩
 · omega
 · rw[e];exact(Zeb _).2
def Zfd(w0 w w':World)(ch st mb:Nat)(M M2:MV)(v v' sv:Value)(ns k K:Nat)(SL1:Int->Option Int)(fs:List Value)(ss ss1:List Stp)(G:Nat->Prop)(hi:Bool)(lpg pg ld:Int)(ps:List KV)(s0:Nat)(l:Zw)(A5:Option Addr)(n5 c5:Nat):Prop:=
 l=(if hi then hiL pg ld ps else loL lpg ld ps)/\n5<=c5/\n5<=maxLen/\∃v2 sv2 fs2,Zp w' (fun k=>G k∨GX ch mb v2 sv2 k) A5 n5 l.ps/\ZF w0 w' ch st mb M M2 v v2 sv2 (ns+k+K) (Zcn s0 (2^ZA (ld+1)) pg K SL1) fs2 (ss++ss1++ZaQ s0 (2^ZA (ld+1)) pg K++[.lay (if hi then loL lpg ld ps else hiL pg ld ps).pg (pageBk (if hi then loL lpg ld ps else hiL pg ld ps).bv)])/\fs2.length<=fs.length+4000/\ZZ w0.heap.size w.heap.size ch mb v' sv v2 sv2 fs fs2 ss (ss++ss1++ZaQ s0 (2^ZA (ld+1)) pg K++[.lay (if hi then loL lpg ld ps else hiL pg ld ps).pg (pageBk (if hi then loL lpg ld ps else hiL pg ld ps).bv)]) w w'
theorem Zc3.shape{w0 w w':World}{ch st mb:Nat}{M M2:MV}{v v' sv:Value}{ns k K:Nat}{SL1:Int->Option Int}{fs:List Value}{ss ss1:List Stp}{G:Nat->Prop}{hi:Bool}{lpg pg ld:Int}{ps:List KV}{s0:Nat}{u:Value}(h:Zc3 w0 w w' ch st mb M M2 v v' sv ns k K SL1 fs ss ss1 G hi lpg pg ld ps s0 u) :
 ∃(a b c:Int) (qs:List KV) (A5:Option Addr) (n5 c5:Nat),u=.agg #[.int .i64 a,.int .i64 b,.int .i64 c,.slice A5 n5 c5]/\Zfd w0 w w' ch st mb M M2 v v' sv ns k K SL1 fs ss ss1 G hi lpg pg ld ps s0 ⟨a,b,c,qs⟩ A5 n5 c5/\Zf (GX ch mb v' sv) w w':=by
 obtain⟨v2,sv2,fs2,hl,hg,hf,hw⟩:=h;unfold Zfd;generalize (if hi then hiL pg ld ps else loL lpg ld ps)=l at hl ⊢;obtain⟨A5,n5,c5,e,h1,h2,h3⟩:=hl;obtain⟨a,b,c,qs⟩:=l;exact⟨a,b,c,qs,A5,n5,c5,e,⟨rfl,h1,h2,v2,sv2,fs2,h3,hg,hf,hw⟩,hw.touch⟩
structure ZfI(w0 w W:World)(ch st mb:Nat)(M M2:MV)(v v' sv:Value)(nsx:Nat)(SLx:Int->Option Int)(fs:List Value)(ss ssx:List Stp)(lim:Nat)(A5:Option Addr)(n5:Nat)(qs:List KV)(pk pv:Value)(v5 sv5:Value)(fs5:List Value)(G:Nat->Prop):Prop where
 g:ZF w0 W ch st mb M M2 v v5 sv5 nsx SLx fs5 ssx
 len:fs5.length<=lim
 went:ZZ w0.heap.size w.heap.size ch mb v' sv v5 sv5 fs fs5 ss ssx w W
 st_:Zp W G A5 n5 qs
 gx:∀k,GX ch mb v5 sv5 k->G k
 lt:∀k,G k->k<W.heap.size
 old:∀k,G k->GX ch mb v' sv k∨w.heap.size<=k
 box:W.heap[w.heap.size]?=some (.cells #[pk,pv] 65 (0,0))/\¬G w.heap.size
section
variable{w0 w W W' wc wE:World}{ch st mb:Nat}{M M2:MV}{v v' sv v1 sv1 v5 sv5 pk pv:Value}{nsx lim:Nat}{SLx:Int->Option Int}{fs fs1 fs5:List Value}{ss ssx ss1:List Stp}{A5:Option Addr}{n5:Nat}{qs:List KV}{G:Nat->Prop}
theorem ZfI.below(h:ZfI w0 w W ch st mb M M2 v v' sv nsx SLx fs ss ssx lim A5 n5 qs pk pv v5 sv5 fs5 G)(hb:Below W.heap.size W W'):ZfI w0 w W' ch st mb M M2 v v' sv nsx SLx fs ss ssx lim A5 n5 qs pk pv v5 sv5 fs5 G:=
 ⟨h.g.keep hb,h.len,h.went.trans (ZZ.below hb),h.st_.below hb,h.gx,fun k hk=>ZZd (h.lt k hk) hb.size,h.old,(hb.block _ (ZZa.1 h.box.1).1).trans h.box.1,h.box.2⟩
theorem ZfI.store(h:ZfI w0 w W ch st mb M M2 v v' sv nsx SLx fs ss ssx lim A5 n5 qs pk pv v5 sv5 fs5 G){lo hi b:Nat}(hav:ZeC w0.heap.size W (fun k=>lo<=k/\k<hi) ch fs5 ssx)(hb:lo<=b/\b<hi)(hG:G b)(hn:¬GX ch mb v5 sv5 b)(h0:w0.heap.size<=b)(hw:w.heap.size<b){T:TypeId}{z0 z1 z2 z3:Value}(hz:W.heap[b]?=some (.cells #[z0,z1,z2,z3] T (0,0)))(x0 x1 x2 x3:Value) :
 ZfI w0 w ((((W.setCell ⟨b,0,none⟩ x0).setCell ⟨b,1,none⟩ x1).setCell ⟨b,2,none⟩ x2).setCell ⟨b,3,none⟩ x3) ch st mb M M2 v v' sv nsx SLx fs ss ssx lim A5 n5 qs pk pv v5 sv5 fs5 G/\((((W.setCell ⟨b,0,none⟩ x0).setCell ⟨b,1,none⟩ x1).setCell ⟨b,2,none⟩ x2).setCell ⟨b,3,none⟩ x3).heap[b]?=some (.cells #[x0,x1,x2,x3] T (0,0)):=by
 obtain⟨p1,p2,p3⟩:=ZeG h.g h.went hav hb hn h0 (Nat.le_of_lt hw) hz x0 x1 x2 x3;exact⟨⟨p1,h.len,p2,Zbz h.st_ hG x0 x1 x2 x3,h.gx,fun k hk=>by have:=h.lt k hk;simpa[World.setCell] using this,h.old,(Z0 W (Nat.ne_of_lt hw) x0 x1 x2 x3).trans h.box.1,h.box.2⟩,p3⟩
theorem Zfd.mid{ns1 k K:Nat}{SL1:Int->Option Int}{ss5:List Stp}{hi:Bool}{lpg pg ld:Int}{ps:List KV}{s0:Nat}{l:Zw}{c5:Nat}(h:Zfd w0 wc wE ch st mb M M2 v v1 sv1 ns1 k K SL1 fs1 ss1 ss5 G hi lpg pg ld ps s0 l A5 n5 c5)
 (hw:ZZ w0.heap.size w.heap.size ch mb v' sv v1 sv1 fs fs1 ss ss1 w wc) (hgx:∀k,GX ch mb v1 sv1 k->G k) (hlt:∀k,G k->k<wc.heap.size) (hold:∀k,G k->GX ch mb v' sv k∨w.heap.size<=k) (hb:wc.heap[w.heap.size]?=some (.cells #[pk,pv] 65 (0,0))) (hn:¬G w.heap.size) :
 ∃v5 sv5 fs5 G',ZfI w0 w wE ch st mb M M2 v v' sv (ns1+k+K) (Zcn s0 (2^ZA (ld+1)) pg K SL1) fs ss (ss1++ss5++ZaQ s0 (2^ZA (ld+1)) pg K++[.lay (if hi then loL lpg ld ps else hiL pg ld ps).pg (pageBk (if hi then loL lpg ld ps else hiL pg ld ps).bv)]) (fs1.length+4000) A5 n5 l.ps pk pv v5 sv5 fs5 G'/\(∀k,G k->G' k)/\(∀k,GX ch mb v5 sv5 k->GX ch mb v1 sv1 k∨wc.heap.size<=k)/\
  (∀Y:Nat->Prop,(∀k,Y k->k<wc.heap.size)->ZeC w0.heap.size wc Y ch fs1 ss1->ZeC w0.heap.size wE Y ch fs5 (ss1++ss5++ZaQ s0 (2^ZA (ld+1)) pg K++[.lay (if hi then loL lpg ld ps else hiL pg ld ps).pg (pageBk (if hi then loL lpg ld ps else hiL pg ld ps).bv)])):=by
 obtain⟨_,_,_,v2,sv2,fs2,hs,hg,hf,hw5⟩:=h;have hws:=(ZZa.1 hb).1;have hwm:=hw.touch.size;refine⟨v2,sv2,fs2,fun k=>G k∨GX ch mb v2 sv2 k,⟨hg,hf,hw.trans (hw5.mono hwm),hs,fun k hk=>.inr hk,fun k hk=>?_,fun k hk=>?_,(hw5.touch.block _ hws (fun e=>hn (hgx _ e))).trans hb,fun e=>?_⟩,fun k hk=>.inl hk,hw5.own,hw5.steps⟩
 · rcases hk with q|q
   · exact ZZd (hlt k q) hw5.touch.size
   · exact(hg.lt k q).2
 · rcases hk with q|q
   · exact hold k q
   · rcases hw5.own k q with q|q
     · exact hold k (hgx k q)
     · exact .inr (ZZf hwm q)
 · rcases e with q|q
   · exact hn q
   · rcases hw5.own _ q with q|q
     · exact hn (hgx _ q)
     · omega
end
theorem ZfI.next{S:DS}{L:List (Int×List Int)}{w0 w W:World}{ch st mb:Nat}{M M2 M3:MV}{v v' sv v5 sv5 pk pv:Value}{nsx lim nsF k6 N1 c5:Nat}{SLx SL3:Int->Option Int}{fs fs5:List Value}{ss ssx ssF ss6:List Stp}{A5:Option Addr}{n5:Nat}{G:Nat->Prop}{x:KV}{l:Zw}(h:ZfI w0 w W ch st mb M M2 v v' sv nsx SLx fs ss ssx lim A5 n5 l.ps pk pv v5 sv5 fs5 G)(h1:n5<=c5)(h2:n5<=maxLen)(hdo:AddDo S L M x (hashL x.1) N1 M2 SLx [l] M3 SL3 k6 ss6)(hns:nsx+k6=nsF)(hss:ssx++ss6=ssF)(hfs:lim+4000*N1+10<=fs.length+49000)(hnm:nsx+2048*N1<=3900000) :
 Zpx S L w0 w ch st mb M M3 v v' sv SL3 fs ss ssF nsF x pk pv N1 (W.alloc (.cells #[.int .i64 l.pg,.int .i64 l.d,.int .i64 l.x,.slice A5 n5 c5] 104 (0,0))) M2 v5 sv5 nsx SLx fs5 ssx [l] (some ⟨W.heap.size,0,none⟩) 1 G k6 ss6:=by
 have hb:Below W.heap.size W (W.alloc (.cells #[.int .i64 l.pg,.int .i64 l.d,.int .i64 l.x,.slice A5 n5 c5] 104 (0,0))):=(Below.refl _ _).alloc (ZZe _) _;have hm:=h.below hb;exact⟨hm.g,hm.went,LC.one h.lt h1 h2 h.st_,hm.gx,hm.lt,hm.old,hm.box,hdo,hns,hss,(by have:=h.len;omega),hnm,(by show 1<=4294967296;decide)⟩
theorem ZqK{a b c N:Nat}(h:a+4000*(N+1)+10<=b+49000)(h2:c<=a+4000):c+4000*N+10<=b+49000:=by omega
theorem ZqL{a k K N:Nat}(h:a+2048*(N+1)<=3900000)(hk:k<=1024)(hK:K<=1024):a+k+K+2048*N<=3900000:=by omega
theorem Zqe{a N:Nat}(h:a+2048*(N+1)<=3900000):a+2048<=3999999:=by omega
section
variable{D:World->(Nat->Prop)->Addr->DS->Prop}{w0 w w':World}{F O:Nat->Prop}{p:Addr}{S:DS}{q r b st ch mb:Nat}{seq:Int}{L:List (Int×List Int)}{M M':MV}{v v' sv:Value}{ns:Nat}{SL:Int->Option Int}{fs:List Value}{ss:List Stp}
theorem Zri(api:Zb D)(hS:SAt D w0 F O p S q seq r b st L)(h:ZF w0 w ch st mb M M' v v' sv ns SL fs ss){G:Nat->Prop}(hGX:∀k,GX ch mb v' sv k->G k)(hG:∀k,G k->k<w.heap.size)(hold:∀k,G k->GX ch mb v' sv k){A ka va:Option Addr}{n c kn kc vn vc:Nat}{ls:List Zw}(hch:LC w G A n ls){x:KV}(hk:BIn w (GX ch mb v' sv) ka kn x.1)(hv:BIn w (GX ch mb v' sv) va vn x.2)(hkc:kn<=kc/\kn<=maxLen)(hvc:vn<=vc/\vn<=maxLen)
 {N:Nat} {M3:MV} {SL3:Int->Option Int} {k3:Nat} {ss3:List Stp} (hdo:AddDo S L M x (hashL x.1) N M' SL ls M3 SL3 k3 ss3) (hfew:ls.length<=4294967296) (hN:N<=11) (hm:fs.length<=3900000) (hns:ns<=3800000) :
 Calls prog 160 #[.pointer (some ⟨ch,0,none⟩),.slice A n c,.agg #[.slice ka kn kc,.slice va vn vc]] w fun e w'=>e=.returned (.int .i64 0)/\ZkO w0 w w' ch st mb M M3 v v' sv ns k3 SL3 fs ss ss3:=by
 obtain⟨w1,hw1⟩:∃w1,w1=w.alloc (.cells #[.slice ka kn kc,.slice va vn vc] 65):=⟨_,rfl⟩
 have hb1:Below w.heap.size w w1:=by rw[hw1];exact(Below.refl _ _).alloc (ZZe _) _
 have hs1:w1.heap.size=w.heap.size+1:=by rw[hw1];simp
 have hp1:w1.heap[w.heap.size]?=some (.cells #[.slice ka kn kc,.slice va vn vc] 65 (0,0)):=by rw[hw1];exact heap_alloc_new _ _
 have H0:Hid (∃M1 v1 sv1 ns1 SL1 fs1 ss1 ls1 G k4 ss4,Zpx S L w0 w ch st mb M M3 v v' sv SL3 fs ss (ss++ss3) (ns+k3) x (.slice ka kn kc) (.slice va vn vc) N w1 M1 v1 sv1 ns1 SL1 fs1 ss1 ls1 A n G k4 ss4):=hid ⟨M',v',sv,ns,SL,fs,ss,ls,G,k3,ss3,h.keep hb1,ZZ.below hb1,hch.below hb1,hGX,(fun k hk=>by have:=hG k hk;omega),(fun k hk=>.inl (hold k hk)),⟨hp1,fun e=>by have:=hG _ e;omega⟩,hdo,rfl,rfl,by omega,by omega,hfew⟩;have HK:=hid hk;have HV:=hid hv;have HS:=hid hS;have HM:=hid hm;clear h hch hdo hk hv hb1 hs1 hp1 hGX hG hold hS hns hm;go_enter func160,ntmps160;go_wp2_with fail;rw[<-hw1];clear hw1
 go_loopg [1] N (fun N u wr=>∃A n c,u=.slice A n c/\Hid (∃M1 v1 sv1 ns1 SL1 fs1 ss1 ls1 G k4 ss4,Zpx S L w0 w ch st mb M M3 v v' sv SL3 fs ss (ss++ss3) (ns+k3) x (.slice ka kn kc) (.slice va vn vc) N wr M1 v1 sv1 ns1 SL1 fs1 ss1 ls1 A n G k4 ss4))
 case atStart=>exact⟨A,n,c,rfl,H0⟩
 case round=>
  obtain⟨A,n,c,rfl,ha⟩:=hrel;obtain⟨M1,v1,sv1,ns1,SL1,fs1,ss1,ls,G,k4,ss4,hat⟩:=ha.out;obtain⟨hlen,g,rfl,hgl,hgG,hcell⟩:=hat.lc;have hpos:0<n:=by rw[<-hlen];exact hat.do_.some_
  have hnle:n<=4294967296:=by rw[<-hlen];exact hat.few
  have HA:=hid hat;have HLEN:=hid hlen;obtain⟨wR,hwR⟩:∃wR,wR=wr:=⟨_,rfl⟩
  rw[<-hwR]at HA
  have HCELL:=hid (show ∀W,Below wR.heap.size wR W->∀(j:Nat) (y:Zw),ls[j]?=some y->∃(A':Option Addr) (n' c':Nat),(W.cell? ⟨g,j*4,none⟩=some (.int .i64 y.pg)/\W.cell? ⟨g,j*4+1,none⟩=some (.int .i64 y.d)/\W.cell? ⟨g,j*4+2,none⟩=some (.int .i64 y.x)/\W.cell? ⟨g,j*4+3,none⟩=some (.slice A' n' c'))/\n'<=c'/\n'<=maxLen/\Zp W G A' n' y.ps from fun W hW j y hy=>by
   rw[hwR]at hW;obtain⟨_,g',e,_,_,hc⟩:=hat.lc.below hW;obtain rfl:g=g':=by injection e with e;injection e
   obtain⟨A',n',c',q1,q2,q3,q4⟩:=hc j y hy
   exact⟨A',n',c',q1,q2,q3,q4.grow (ZZe _) (fun _ _ _=>rfl) (fun k _ hn hg=>hn (.inl hg))⟩)
  have HSIZE:=hid (show w.heap.size<wR.heap.size from by rw[hwR];exact(ZZa.1 hat.box.1).1);have HGG:=hid (show g<wR.heap.size/\¬G g from⟨by rw[hwR];exact hgl,hgG⟩);clear hat ha hlen hcell hgl hgG H0;go_wp2_with fail;rw[<-hwR];clear hwR
  go_loopw[13] (fun i wj=>∃j:Nat,j<=n/\i=.int .i64 j/\Hid ((∀(i':Nat) (y:Zw),i'<j->ls[i']?=some y->¬Zdo x y)/\Below wR.heap.size wR wj)) (fun i _=>n+1-(intOf i).toNat)
  case atStart=>exact⟨0,Nat.zero_le _,rfl,hid ⟨fun i' y h=>absurd h (Nat.not_lt_zero _),Below.refl _ _⟩⟩
  case round=>
   obtain⟨j,hj,rfl,hbw⟩:=hrel;by_cases hjn:j<n
   · have hjn':(j:Int)<(n:Int):=by omega
     obtain⟨y,hy⟩:∃y,ls[j]?=some y:=⟨_,ZZc (by rw[HLEN.out];exact hjn)⟩
     have hbR:=hbw.out.2;obtain⟨A',n',c',⟨c0,c1,c2,c3⟩,hc',hn',hst⟩:=HCELL.out wr hbR j y hy;obtain⟨hsz1,hsz2⟩:=HA.out.do_.sz j y hy;have HFA:=hid (fun(hf:Zdo x y)=>HA.out.do_.fit_at hy hf (fun i' z hi' hz=>hbw.out.1 i' z hi' hz))
     have HNX:=hid (show ¬Zdo x y->∀(i':Nat) (z:Zw),i'<j+1->ls[i']?=some z->¬Zdo x z from fun hf i' z hi' hz=>by
      rcases Nat.lt_or_ge i' j with q|q
      · exact hbw.out.1 i' z q hz
      · obtain rfl:i'=j:=by omega
        rw[hy]at hz;obtain rfl:=Option.some.inj hz
        exact hf)
     obtain⟨ypg,yd,yx,yps⟩:=y;simp only at c0 c1 c2 hst hsz1 hsz2;have hn2:n'<=4294967296:=by have:=hst.now.1;omega
     obtain⟨w2,hw2⟩:∃w2,w2=wr.alloc (.cells #[.int .i64 ypg,.int .i64 yd,.int .i64 yx,.slice A' n' c'] 104):=⟨_,rfl⟩
     have hba:Below wr.heap.size wr w2:=by rw[hw2];exact(Below.refl _ _).alloc (ZZe _) _
     have hz2:w2.heap.size=wr.heap.size+1:=by rw[hw2];simp
     have hbx:w2.heap[wr.heap.size]?=some (.cells #[.int .i64 ypg,.int .i64 yd,.int .i64 yx,.slice A' n' c'] 104 (0,0)):=by rw[hw2];exact heap_alloc_new _ _
     have hX2:Below wR.heap.size wR w2:=hbR.trans (hba.mono hbR.size);have hsw:=hbR.size;have hpx:w2.heap[w.heap.size]?=some (.cells #[.slice ka kn kc,.slice va vn vc] 65 (0,0)):=(hX2.block _ HSIZE.out).trans HA.out.box.1;obtain⟨z0,z1,z2,z3,_,_⟩:=Za hbx;have p0:w2.cell? ⟨w.heap.size,0,none⟩=some (.slice ka kn kc):=by rw[cell_of_row _ _ 0 _ _ (0,0) hpx];rfl
     have p1:w2.cell? ⟨w.heap.size,1,none⟩=some (.slice va vn vc):=by rw[cell_of_row _ _ 1 _ _ (0,0) hpx];rfl
     have hst2:Zp w2 (fun k=>G k∨k=wr.heap.size) A' n' yps:=hst.grow hba.size (fun k hk _=>hba.block k hk) (fun k hk hn hg2=>by
      rcases hg2 with e|e
      · exact hn e
      · omega)
     have hws:w.heap.size<=w2.heap.size:=by have:=HSIZE.out;omega
     have hkeep:∀k,k<w.heap.size->¬GX ch mb v' sv k->w2.heap[k]?=w.heap[k]?:=fun k hk hn=>(hX2.block k (Nat.lt_trans hk HSIZE.out)).trans (HA.out.went.touch.block k hk hn)
     have hin:∀k,k<w.heap.size->¬GX ch mb v' sv k->¬(G k∨k=wr.heap.size):=fun k hk hn hg2=>by
      rcases hg2 with e|e
      · rcases HA.out.old k e with e|e
        · exact hn e
        · omega
      · have:=HSIZE.out;omega
     have hk2:=HK.out.grow (G':=fun k=>G k∨k=wr.heap.size) hws hkeep hin;have hv2:=HV.out.grow (G':=fun k=>G k∨k=wr.heap.size) hws hkeep hin
     have HWITH:=hid (Zc0 (l:=⟨ypg,yd,yx,yps⟩) hc' hst2 (fun k hk=>by
      rcases hk with e|e
      · have:=HA.out.lt k e;omega
      · omega) hk2 hv2 hkc hvc hn2)
     have HX2:=hid hX2;have HBX:=hid hbx;have HZ:=hid (ZZg hz2 hsw);have HSZ1:=hid hsz1;clear hy hst hst2 hk2 hv2 hin hba hbx hX2 hpx hsz1 hsz2 hbw hbR hkeep hws;have p0':=p0;have p1':=p1;rw[hw2]at p0' p1';go_wp2_with fail;rw[<-hw2];clear hw2 p0' p1';refine HWITH.out.mono ?_;rintro e w3⟨lv,rfl,⟨A3,n3,c3,rfl,hc3,hn3,hst3⟩,hb3⟩;simp only at hst3;have hbx3:=(hb3.block wr.heap.size (by have:=HZ.out.1;omega)).trans HBX.out;obtain⟨_,_,_,_,fz,_⟩:=Za hbx3;have f0:=fz 0;have f1:=fz 1;have f2:=fz 2;have f3:=fz 3;obtain⟨w4,hw4⟩:∃w4,w4=((((w3.setCell ⟨wr.heap.size,0,none⟩ (.int .i64 ypg)).setCell ⟨wr.heap.size,1,none⟩ (.int .i64 yd)).setCell ⟨wr.heap.size,2,none⟩ (.int .i64 yx)).setCell ⟨wr.heap.size,3,none⟩ (.slice A3 n3 c3)):=⟨_,rfl⟩
     have hb4:Below wR.heap.size wR w4:=by rw[hw4];exact Zag (HX2.out.trans (hb3.mono HX2.out.size)) hsw _ _ _ _
     have hbx4:w4.heap[wr.heap.size]?=some (.cells #[.int .i64 ypg,.int .i64 yd,.int .i64 yx,.slice A3 n3 c3] 104 (0,0)):=by rw[hw4];exact Zbf hbx3 _ _ _ _
     have hst4:Zp w4 (fun k=>G k∨k=wr.heap.size) A3 n3 (yps++[x]):=by
      rw[hw4];exact(((hst3.setCell (p:=⟨wr.heap.size,0,none⟩) (.inr rfl) _).setCell (p:=⟨wr.heap.size,1,none⟩) (.inr rfl) _).setCell (p:=⟨wr.heap.size,2,none⟩) (.inr rfl) _).setCell (p:=⟨wr.heap.size,3,none⟩) (.inr rfl) _
     obtain⟨y0,y1,y2,y3,_,_⟩:=Za hbx4;have HFIT:=hid (ZhW (c:=c3) (l:=⟨ypg,yd,yx,yps++[x]⟩) hst4 hn3 HSZ1.out);have H4:=hid (ZZg hb4 (ZZg hst4 hbx4));rw[hw4]at y0 y1 y2 y3;clear hb3 hbx3 fz hst3 hb4 hbx4 hst4 z0 z1 z2 z3 p0 p1;go_wp2_with fail;rw[<-hw4];clear hw4 y0 y1 y2 y3 f0 f1 f2 f3;refine HFIT.out.mono ?_;rintro e w5⟨rfl,hb5⟩;obtain⟨k14,kst,kbx⟩:=H4.out;have hb15:=k14.trans (hb5.mono k14.size);have hbx5:=(hb5.block wr.heap.size (ZZa.1 kbx).1).trans kbx;obtain⟨y0,y1,y2,y3,_,_⟩:=Za hbx5;by_cases hft:Zdo x ⟨ypg,yd,yx,yps⟩
     · rw[show decide (8+szP (⟨ypg,yd,yx,yps++[x]⟩:Zw).ps<=240)=true from decide_eq_true hft];obtain⟨e1,e2,e3,e4,⟨i1,i2,i3⟩,hmay⟩:=HFA.out hft;have hat:=HA.out;have hfl:fs1.length<=fs.length+49000:=by have:=hat.fsm;omega
       have HKP:=hid (ZcI (hat.g.keep hb15) (l:=⟨ypg,yd,yx,yps++[x]⟩) ⟨A3,n3,c3,rfl,hc3,hn3,kst.below hb5⟩ i1 i2 i3 hmay (by have:=HM.out;omega));have HEQ:=hid (ZZg e1 (ZZg e2 (ZZg e3 e4)));have HB5:=hid hb15;have HFL:=hid hfl;clear hft k14 kst kbx hb15 hbx5 hb5 HWITH HFIT H4 hfl hat e1 e2 e3 e4 i1 i2 i3 hmay;go_wp2_with fail;refine HKP.out.mono ?_;rintro e w6⟨rfl,sv2,f,hg6,hw6⟩
       have HE:=hid (show ZkO w0 w w6 ch st mb M M3 v v' sv ns k3 SL3 fs ss ss3 from by
        obtain⟨rfl,rfl,rfl,rfl⟩:=HEQ.out;have hat:=HA.out;have e5:=hat.ss;have e6:=hat.ns;refine⟨v1,sv2,fs1++[f],?_,?_,?_⟩
        · rw[<-e5,<-e6];exact hg6
        · have:=HFL.out;rw[List.length_append];show fs1.length+1<=_;omega
        · rw[<-e5];exact(hat.went.trans (ZZ.below HB5.out)).trans (hw6.mono (ZZf hat.went.touch.size HB5.out.size)))
       clear hg6 hw6 HKP y0 y1 y2 y3;go_wp2_with fail;go_ret;exact⟨rfl,HE.out⟩
     · rw[show decide (8+szP (⟨ypg,yd,yx,yps++[x]⟩:Zw).ps<=240)=false from decide_eq_false hft];have HE:=hid (ZZg (HNX.out hft) hb15);clear hft k14 kst kbx hb15 hbx5 hb5 HWITH HFIT H4 y0 y1 y2 y3;go_wp2_with fail;go_roundw
       case rel=>exact⟨j+1,by omega,by go_num,HE⟩
       case measure=>simp[intOf];omega
   · obtain rfl:j=n:=by omega
     have hbR:=hbw.out.2;have hnone:=HA.out.do_.none_fits (fun i' y hy=>hbw.out.1 i' y (by rw[<-HLEN.out];exact(ZZb.1 hy).1) hy);have hpx:wr.heap[w.heap.size]?=some (.cells #[.slice ka kn kc,.slice va vn vc] 65 (0,0)):=(hbR.block _ HSIZE.out).trans HA.out.box.1;have hws:w.heap.size<=wr.heap.size:=ZZf (Nat.le_of_lt HSIZE.out) hbR.size;have hkeep:∀k,k<w.heap.size->¬GX ch mb v' sv k->wr.heap[k]?=w.heap[k]?:=fun k hk hn=>(hbR.block k (Nat.lt_trans hk HSIZE.out)).trans (HA.out.went.touch.block k hk hn)
     have hin:∀k,k<w.heap.size->¬GX ch mb v' sv k->¬G k:=fun k hk hn e=>by
      rcases HA.out.old k e with e|e
      · exact hn e
      · omega
     have HKR:=hid (HK.out.grow (G':=G) hws hkeep hin);have HVR:=hid (HV.out.grow (G':=G) hws hkeep hin);have HGL:=hid (show ∀k,G k->k<wr.heap.size from fun k hk=>ZZd (HA.out.lt k hk) hbR.size);have HGR:=hid (HA.out.g.keep hbR);have HWR:=hid (HA.out.went.trans (ZZ.below hbR));have hfl:fs1.length<=3999990:=by have:=HA.out.fsm;have:=HM.out;omega
     have HFL:=hid hfl;have HPX:=hid hpx;rcases hnone with ⟨l0,l,pg,h0,hd0,hl,hn,hf,htk,hpg,⟨i1,i2,i3⟩,hm1,hm2,eSL,ek,ess⟩|⟨l,N1,M4,M2,SL4,k5,K,k6,ss5,ss6,pg,els,eN,hp,hrest,ek,ess⟩
     · obtain⟨_,_,_,⟨_,a1,_,_⟩,_⟩:=HCELL.out wr hbR 0 l0 h0;obtain⟨A',n',c',⟨c0,c1,c2,c3⟩,hc',hn',hst⟩:=HCELL.out wr hbR (ls.length-1) l hl;rw[HLEN.out]at c0 c1 c2 c3;obtain⟨qn,hqn⟩:∃qn:Nat,j=qn+1:=⟨j-1,by omega⟩
       have e1:j-1=qn:=by omega
       rw[e1]at c0 c1 c2 c3;have HFO:=hid (fun W (hW:Below wr.heap.size wr W)=>Zps api HS.out (HGR.out.keep hW) (G:=G) (fun k hk=>ZZd (HGL.out k hk) hW.size) HA.out.gx (l:=l) (A:=A') (n:=n') (c:=c') ⟨hc',hn'⟩ (hst.below hW) (HKR.out.below hW) (HVR.out.below hW) hkc hvc hn hf htk hpg i1 i2 hm1 hm2 (by have:=HFL.out;omega));have hd0':=hd0;rw[hd0']at a1;obtain⟨lpg,ld,lx,lps⟩:=l;simp only at c0 c1 c2;have p0:wr.cell? ⟨w.heap.size,0,none⟩=some (.slice ka kn kc):=by rw[cell_of_row _ _ 0 _ _ (0,0) hpx];rfl
       have p1:wr.cell? ⟨w.heap.size,1,none⟩=some (.slice va vn vc):=by rw[cell_of_row _ _ 1 _ _ (0,0) hpx];rfl
       have HEQ:=hid (ZZg eSL (ZZg ek ess));have a1':wr.cell? ⟨g,1,none⟩=some (.int .i64 10):=by simpa using a1
       have hq0:(0:Int)<=(qn:Int):=by omega
       have hq1:(qn:Int)<(j:Int):=by omega
       have hqw:IntKind.i64.wrap ((j:Int)-1)=(qn:Int):=by rw[IntKind.wrap_i64];first|(unfold wrap64;omega)|omega
       have hQ:=hid hqn;have C6:=hid (show ∀W:World,W.heap[g]?=wr.heap[g]?->W.heap[w.heap.size]?=wr.heap[w.heap.size]?->W.cell? ⟨g,qn*4,none⟩=some (.int .i64 lpg)/\W.cell? ⟨g,qn*4+1,none⟩=some (.int .i64 ld)/\W.cell? ⟨g,qn*4+2,none⟩=some (.int .i64 lx)/\W.cell? ⟨g,qn*4+3,none⟩=some (.slice A' n' c')/\W.cell? ⟨w.heap.size,0,none⟩=some (.slice ka kn kc)/\W.cell? ⟨w.heap.size,1,none⟩=some (.slice va vn vc)from fun W h1 h2=>⟨(World.cell?_of_block (a:=⟨g,_,none⟩) h1).trans c0,(World.cell?_of_block (a:=⟨g,_,none⟩) h1).trans c1,(World.cell?_of_block (a:=⟨g,_,none⟩) h1).trans c2,(World.cell?_of_block (a:=⟨g,_,none⟩) h1).trans c3,(World.cell?_of_block (a:=⟨w.heap.size,0,none⟩) h2).trans p0,(World.cell?_of_block (a:=⟨w.heap.size,1,none⟩) h2).trans p1⟩);have c5:=C6.out wr rfl rfl;have hgw:g<wr.heap.size:=ZZd HGG.out.1 hbR.size;have hww:w.heap.size<wr.heap.size:=ZZd HSIZE.out hbR.size;have HC6:=hid (show ∀W,Zf (GX ch mb v1 sv1) wr.drew W->_ from fun W t=>C6.out W (t.block g hgw (fun e=>HGG.out.2 (HA.out.gx g e))) (t.block w.heap.size hww (fun e=>HA.out.box.2 (HA.out.gx _ e))));clear h0 hd0 hd0' hl hn hf htk hpg i1 i2 i3 hm1 hm2 eSL ek ess a1 hst hkeep hin hws hfl hpx hbR c0 c1 c2 c3 p0 p1 hbw e1 hqn hgw hww;go_wp2_with fail
       go_region_held3 (fun W=>W.cell? ⟨g,qn*4,none⟩=some (.int .i64 lpg)/\W.cell? ⟨g,qn*4+1,none⟩=some (.int .i64 ld)/\W.cell? ⟨g,qn*4+2,none⟩=some (.int .i64 lx)/\W.cell? ⟨g,qn*4+3,none⟩=some (.slice A' n' c')/\W.cell? ⟨w.heap.size,0,none⟩=some (.slice ka kn kc)/\W.cell? ⟨w.heap.size,1,none⟩=some (.slice va vn vc))
        (first|with_reducible exact c5|exact c5|with_reducible exact c6)
        (first
         | (go_at_call 212;refine Calls.mono (HFO.out _ (Below.refl _ _).drew) ?_;rintro e wE ⟨rfl,sv5,fs5,hg5,hfl5,hw5⟩;have c6:=HC6.out wE hw5.touch;have HG5:=hid hg5;have HFL5:=hid hfl5;have HW5:=hid hw5;clear hg5 hfl5 hw5))
       have HE:=hid (show ZkO w0 w wE ch st mb M M3 v v' sv ns k3 SL3 fs ss ss3 from by
        obtain⟨eSL,ek,ess⟩:=HEQ.out;subst eSL ek ess;have hat:=HA.out;have e5:=hat.ss;have e6:=hat.ns;have hw:=(HWR.out.trans (ZZ.below (Below.refl wr.heap.size wr).drew)).trans (HW5.out.mono (HWR.out.touch.size));have hg:=HG5.out;rw[List.append_assoc]at hg hw;refine⟨v1,sv5,fs5,?_,?_,?_⟩
        · rw[<-e5,<-e6];exact hg
        · have:=HFL5.out;have:=hat.fsm;omega
        · rw[<-e5];exact hw)
       clear c5 c6 HC6 C6 HFO;go_wp2_with fail;go_ret;exact⟨rfl,HE.out⟩
     · subst els;obtain rfl:j=1:=HLEN.out.symm;obtain⟨A',n',c',⟨c0,c1,c2,c3⟩,hc',hn',hst⟩:=HCELL.out wr hbR 0 l rfl;obtain⟨hsz1,hsz2⟩:=HA.out.do_.sz 0 l rfl;have hgw:g<wr.heap.size:=ZZd HGG.out.1 hbR.size;have hww:w.heap.size<wr.heap.size:=ZZd HSIZE.out hbR.size;have p0:wr.cell? ⟨w.heap.size,0,none⟩=some (.slice ka kn kc):=by rw[cell_of_row _ _ 0 _ _ (0,0) hpx];rfl
       have HEQ:=hid (ZZg ek ess);have HP:=hid hp;have HREST:=hid hrest;rw[hp.x0]at c2;obtain⟨lpg,ld,lx,lps⟩:=l;simp only[Nat.zero_mul,Nat.zero_add]at c0 c1 c2 c3;have hst:Zp wr G A' n' lps:=hst
       have hld:(ld == 10)=false:=by
        have h1:ld<=9:=hp.d.2;simp;omega
       have hn4:n'<=4294967296:=by have h1:lps.length<=4294967295:=hsz2;have:=hst.now.1;omega
       subst eN;have HPG:=hid (fun W (hW:Below wr.heap.size wr W)=>Zqa api HS.out (HGR.out.keep hW) (G:=G) (fun k hk=>ZZd (HGL.out k hk) hW.size) HA.out.gx (lpg:=lpg) (ld:=ld) (ps:=lps) (A:=A') (n:=n') (c:=c') ⟨hc',hn4⟩ (hst.below hW) (ZeA x.1) hp.d hp.lpg hp.dbl hp.md hp.n hp.f hp.take hp.pgI hp.d2 K hp.hin hp.hend hp.hend2 hp.may hp.K (Zqd HA.out.fsm HM.out) (Zqe HA.out.nsm))
       have hstA:Zp (wr.alloc (.cells #[.int .i64 0,.int .i64 0,.int .i64 0,.slice none 0 0] 104 (0,0))).drew (fun k=>G k∨k=wr.heap.size) A' n' lps:=hst.grow (by show wr.heap.size<=(wr.alloc _).heap.size;simp) (fun k hk _=>heap_alloc_old wr _ hk) (fun k hk hn hg=>by
        rcases hg with q|q
        · exact hn q
        · omega)
       have hltA:∀k,(G k∨k=wr.heap.size)->k<(wr.alloc (.cells #[.int .i64 0,.int .i64 0,.int .i64 0,.slice none 0 0] 104 (0,0))).drew.heap.size:=fun k hk=>by
        show k<(wr.alloc _).heap.size;rcases hk with q|q
        · have:=HGL.out k q;simp;omega
        · simp;omega
       have HPA:=hid (Zqa api HS.out (HGR.out.keep ((Below.refl _ _).alloc (ZZe _) (.cells #[.int .i64 0,.int .i64 0,.int .i64 0,.slice none 0 0] 104 (0,0))).drew) (G:=fun k=>G k∨k=wr.heap.size) hltA (fun k hk=>.inl (HA.out.gx k hk)) (lpg:=lpg) (ld:=ld) (ps:=lps) (A:=A') (n:=n') (c:=c') ⟨hc',hn4⟩ hstA (ZeA x.1) hp.d hp.lpg hp.dbl hp.md hp.n hp.f hp.take hp.pgI hp.d2 K hp.hin hp.hend hp.hend2 hp.may hp.K (Zqd HA.out.fsm HM.out) (Zqe HA.out.nsm));have bd:Below wr.heap.size wr wr.drew:=(Below.refl _ _).drew;have bda:Below wr.heap.size wr (wr.alloc (.cells #[.int .i64 0,.int .i64 0,.int .i64 0,.slice none 0 0] 104 (0,0))).drew:=((Below.refl _ _).alloc (ZZe _) _).drew;have HOF:=hid (fun W (hW:Below wr.heap.size wr W)=>ZnZ ka kn kc W.heap.size x.1 W (HKR.out.below hW).1 hkc.2);have C6:=hid (show ∀W:World,W.heap[g]?=wr.heap[g]?->W.heap[w.heap.size]?=wr.heap[w.heap.size]?->W.cell? ⟨g,0,none⟩=some (.int .i64 lpg)/\W.cell? ⟨g,1,none⟩=some (.int .i64 ld)/\W.cell? ⟨g,2,none⟩=some (.int .i64 0)/\W.cell? ⟨g,3,none⟩=some (.slice A' n' c')/\W.cell? ⟨w.heap.size,0,none⟩=some (.slice ka kn kc)from fun W h1 h2=>⟨(World.cell?_of_block (a:=⟨g,0,none⟩) h1).trans c0,(World.cell?_of_block (a:=⟨g,1,none⟩) h1).trans c1,(World.cell?_of_block (a:=⟨g,2,none⟩) h1).trans c2,(World.cell?_of_block (a:=⟨g,3,none⟩) h1).trans c3,(World.cell?_of_block (a:=⟨w.heap.size,0,none⟩) h2).trans p0⟩);have c5:=C6.out wr rfl rfl;have HC6:=hid (show ∀W0 W W',Below wr.heap.size wr W0->Zf (GX ch mb v1 sv1) W0 W->W'.heap[g]?=W.heap[g]?->W'.heap[w.heap.size]?=W.heap[w.heap.size]?->_ from fun W0 W W' h0 t e1 e2=>C6.out W' (e1.trans ((t.block g (ZZd hgw h0.size) (fun e=>HGG.out.2 (HA.out.gx g e))).trans (h0.block g hgw))) (e2.trans ((t.block w.heap.size (ZZd hww h0.size) (fun e=>HA.out.box.2 (HA.out.gx _ e))).trans (h0.block _ hww))));have HC7:=hid (show ∀W0 W,Below wr.heap.size wr W0->Zf (GX ch mb v1 sv1) W0 W->(∀W',Below W.heap.size W W'->W'.heap[g]?=W.heap[g]?)/\(∀W',Below W.heap.size W W'->W'.heap[w.heap.size]?=W.heap[w.heap.size]?)from fun W0 W h0 t=>⟨fun W' hb=>hb.block g (ZZd hgw (ZZf h0.size t.size)),fun W' hb=>hb.block _ (ZZd hww (ZZf h0.size t.size))⟩);have HLTS:=hid (ZZg hgw hww);have HB9:=hid (show ∀W,Zf (GX ch mb v1 sv1) (wr.alloc (.cells #[.int .i64 0,.int .i64 0,.int .i64 0,.slice none 0 0] 104 (0,0))).drew W->W.heap[wr.heap.size]?=some (.cells #[.int .i64 0,.int .i64 0,.int .i64 0,.slice none 0 0] 104 (0,0))from fun W t=>(t.block wr.heap.size (by show wr.heap.size<(wr.alloc _).heap.size;simp) (fun e=>by have:=HGL.out _ (HA.out.gx _ e);omega)).trans (heap_alloc_new wr _));have c4:=C6.out (wr.alloc (.cells #[.int .i64 0,.int .i64 0,.int .i64 0,.slice none 0 0] 104 (0,0))).drew (bda.block g hgw) (bda.block _ hww)
       have HB6:=hid (show ∀(wE:World) (pa pb pc:Int) (qs:List KV) (A5:Option Addr) (n5 c5':Nat),Zfd w0 wr.drew wE ch st mb M M2 v v1 sv1 ns1 k5 K SL4 fs1 ss1 ss5 G (ZaC (hashL x.1) ld) lpg pg ld lps (slotN (hashL x.1) (ZJ ld)+2^ZA ld) ⟨pa,pb,pc,qs⟩ A5 n5 c5'->Hid (∃v5 sv5 fs5 G',ZfI w0 w (wE.alloc (.cells #[.int .i64 pa,.int .i64 pb,.int .i64 pc,.slice A5 n5 c5'] 104 (0,0))) ch st mb M M2 v v' sv (ns1+k5+K) (Zcn (slotN (hashL x.1) (ZJ ld)+2^ZA ld) (2^ZA (ld+1)) pg K SL4) fs ss (ss1++ss5++ZaQ (slotN (hashL x.1) (ZJ ld)+2^ZA ld) (2^ZA (ld+1)) pg K++[.lay (if ZaC (hashL x.1) ld then loL lpg ld lps else hiL pg ld lps).pg (pageBk (if ZaC (hashL x.1) ld then loL lpg ld lps else hiL pg ld lps).bv)]) (fs1.length+4000) A5 n5 qs (.slice ka kn kc) (.slice va vn vc) v5 sv5 fs5 G')/\Hid ((⟨pa,pb,pc,qs⟩:Zw)=(if ZaC (hashL x.1) ld then hiL pg ld lps else loL lpg ld lps)/\n5<=c5'/\n5<=maxLen)/\((wE.alloc (.cells #[.int .i64 pa,.int .i64 pb,.int .i64 pc,.slice A5 n5 c5'] 104 (0,0))).cell? ⟨wE.heap.size,0,none⟩=some (.int .i64 pa)/\(wE.alloc (.cells #[.int .i64 pa,.int .i64 pb,.int .i64 pc,.slice A5 n5 c5'] 104 (0,0))).cell? ⟨wE.heap.size,1,none⟩=some (.int .i64 pb)/\(wE.alloc (.cells #[.int .i64 pa,.int .i64 pb,.int .i64 pc,.slice A5 n5 c5'] 104 (0,0))).cell? ⟨wE.heap.size,2,none⟩=some (.int .i64 pc)/\(wE.alloc (.cells #[.int .i64 pa,.int .i64 pb,.int .i64 pc,.slice A5 n5 c5'] 104 (0,0))).cell? ⟨wE.heap.size,3,none⟩=some (.slice A5 n5 c5'))from fun wE pa pb pc qs A5 n5 c5' hpo=>by
        obtain⟨v5,sv5,fs5,G',hm,_,_,_⟩:=hpo.mid (HWR.out.trans (ZZ.below bd)) HA.out.gx (fun k hk=>HGL.out k hk) HA.out.old HPX.out HA.out.box.2;obtain⟨q0,q1,q2,q3,_⟩:=Za (heap_alloc_new wE (.cells #[.int .i64 pa,.int .i64 pb,.int .i64 pc,.slice A5 n5 c5'] 104 (0,0)))
        exact⟨hid ⟨v5,sv5,fs5,G',hm.below ((Below.refl _ _).alloc (ZZe _) _)⟩,hid ⟨hpo.1,hpo.2.1,hpo.2.2.1⟩,q0,q1,q2,q3⟩)
       have HA6:=hid (show ∀(wE:World) (pa pb pc:Int) (qs:List KV) (A5:Option Addr) (n5 c5':Nat),Zfd w0 (wr.alloc (.cells #[.int .i64 0,.int .i64 0,.int .i64 0,.slice none 0 0] 104 (0,0))).drew wE ch st mb M M2 v v1 sv1 ns1 k5 K SL4 fs1 ss1 ss5 (fun k=>G k∨k=wr.heap.size) (ZaC (hashL x.1) ld) lpg pg ld lps (slotN (hashL x.1) (ZJ ld)+2^ZA ld) ⟨pa,pb,pc,qs⟩ A5 n5 c5'->Zf (GX ch mb v1 sv1) (wr.alloc (.cells #[.int .i64 0,.int .i64 0,.int .i64 0,.slice none 0 0] 104 (0,0))).drew wE->Hid (∃v5 sv5 fs5 G',ZfI w0 w ((((wE.setCell ⟨wr.heap.size,0,none⟩ (.int .i64 pa)).setCell ⟨wr.heap.size,1,none⟩ (.int .i64 pb)).setCell ⟨wr.heap.size,2,none⟩ (.int .i64 pc)).setCell ⟨wr.heap.size,3,none⟩ (.slice A5 n5 c5')) ch st mb M M2 v v' sv (ns1+k5+K) (Zcn (slotN (hashL x.1) (ZJ ld)+2^ZA ld) (2^ZA (ld+1)) pg K SL4) fs ss (ss1++ss5++ZaQ (slotN (hashL x.1) (ZJ ld)+2^ZA ld) (2^ZA (ld+1)) pg K++[.lay (if ZaC (hashL x.1) ld then loL lpg ld lps else hiL pg ld lps).pg (pageBk (if ZaC (hashL x.1) ld then loL lpg ld lps else hiL pg ld lps).bv)]) (fs1.length+4000) A5 n5 qs (.slice ka kn kc) (.slice va vn vc) v5 sv5 fs5 G')/\Hid ((⟨pa,pb,pc,qs⟩:Zw)=(if ZaC (hashL x.1) ld then hiL pg ld lps else loL lpg ld lps)/\n5<=c5'/\n5<=maxLen)/\(((((wE.setCell ⟨wr.heap.size,0,none⟩ (.int .i64 pa)).setCell ⟨wr.heap.size,1,none⟩ (.int .i64 pb)).setCell ⟨wr.heap.size,2,none⟩ (.int .i64 pc)).setCell ⟨wr.heap.size,3,none⟩ (.slice A5 n5 c5')).cell? ⟨wr.heap.size,0,none⟩=some (.int .i64 pa)/\((((wE.setCell ⟨wr.heap.size,0,none⟩ (.int .i64 pa)).setCell ⟨wr.heap.size,1,none⟩ (.int .i64 pb)).setCell ⟨wr.heap.size,2,none⟩ (.int .i64 pc)).setCell ⟨wr.heap.size,3,none⟩ (.slice A5 n5 c5')).cell? ⟨wr.heap.size,1,none⟩=some (.int .i64 pb)/\((((wE.setCell ⟨wr.heap.size,0,none⟩ (.int .i64 pa)).setCell ⟨wr.heap.size,1,none⟩ (.int .i64 pb)).setCell ⟨wr.heap.size,2,none⟩ (.int .i64 pc)).setCell ⟨wr.heap.size,3,none⟩ (.slice A5 n5 c5')).cell? ⟨wr.heap.size,2,none⟩=some (.int .i64 pc)/\((((wE.setCell ⟨wr.heap.size,0,none⟩ (.int .i64 pa)).setCell ⟨wr.heap.size,1,none⟩ (.int .i64 pb)).setCell ⟨wr.heap.size,2,none⟩ (.int .i64 pc)).setCell ⟨wr.heap.size,3,none⟩ (.slice A5 n5 c5')).cell? ⟨wr.heap.size,3,none⟩=some (.slice A5 n5 c5'))from fun wE pa pb pc qs A5 n5 c5' hpo ht=>by
        obtain⟨v5,sv5,fs5,G',hm,hGG,hown,hst5⟩:=hpo.mid (HWR.out.trans (ZZ.below bda)) (fun k hk=>.inl (HA.out.gx k hk)) hltA (fun k hk=>by
         rcases hk with q|q
         · exact HA.out.old k q
         · exact .inr (by omega)) ((bda.block _ hww).trans HPX.out) (fun e=>by
         rcases e with q|q
         · exact HA.out.box.2 q
         · omega)
        have hz:=HB9.out wE ht
        have hnx:¬GX ch mb v5 sv5 wr.heap.size:=fun e=>by
         rcases hown _ e with q|q
         · have:=HGL.out _ (HA.out.gx _ q);omega
         · have hzz:(wr.alloc (.cells #[.int .i64 0,.int .i64 0,.int .i64 0,.slice none 0 0] 104 (0,0))).drew.heap.size=wr.heap.size+1:=by show(wr.alloc _).heap.size=_;simp
           omega
        have hzz:(wr.alloc (.cells #[.int .i64 0,.int .i64 0,.int .i64 0,.slice none 0 0] 104 (0,0))).drew.heap.size=wr.heap.size+1:=by show(wr.alloc _).heap.size=_;simp
        obtain⟨m1,m2⟩:=hm.store (hst5 (fun k=>wr.heap.size<=k/\k<(wr.alloc (.cells #[.int .i64 0,.int .i64 0,.int .i64 0,.slice none 0 0] 104 (0,0))).drew.heap.size) (fun k hk=>hk.2) (HGR.out.avoid bda)) ⟨ZZe _,by omega⟩ (hGG _ (.inr rfl)) hnx (ZZf HA.out.g.bel.size hbR.size) hww hz (.int .i64 pa) (.int .i64 pb) (.int .i64 pc) (.slice A5 n5 c5');obtain⟨q0,q1,q2,q3,_⟩:=Za m2
        exact⟨hid ⟨v5,sv5,fs5,G',m1⟩,hid ⟨hpo.1,hpo.2.1,hpo.2.2.1⟩,q0,q1,q2,q3⟩)
       have HNX:=hid (show ∀(W6:World) (pa pb pc:Int) (qs:List KV) (A5:Option Addr) (n5 c5':Nat),(∃v5 sv5 fs5 G',ZfI w0 w W6 ch st mb M M2 v v' sv (ns1+k5+K) (Zcn (slotN (hashL x.1) (ZJ ld)+2^ZA ld) (2^ZA (ld+1)) pg K SL4) fs ss (ss1++ss5++ZaQ (slotN (hashL x.1) (ZJ ld)+2^ZA ld) (2^ZA (ld+1)) pg K++[.lay (if ZaC (hashL x.1) ld then loL lpg ld lps else hiL pg ld lps).pg (pageBk (if ZaC (hashL x.1) ld then loL lpg ld lps else hiL pg ld lps).bv)]) (fs1.length+4000) A5 n5 qs (.slice ka kn kc) (.slice va vn vc) v5 sv5 fs5 G')->((⟨pa,pb,pc,qs⟩:Zw)=(if ZaC (hashL x.1) ld then hiL pg ld lps else loL lpg ld lps)/\n5<=c5'/\n5<=maxLen)->∃M1 v1 sv1 ns1 SL1 fs1 ss1 ls1 G k4 ss4,Zpx S L w0 w ch st mb M M3 v v' sv SL3 fs ss (ss++ss3) (ns+k3) x (.slice ka kn kc) (.slice va vn vc) N1 (W6.alloc (.cells #[.int .i64 pa,.int .i64 pb,.int .i64 pc,.slice A5 n5 c5'] 104 (0,0))) M1 v1 sv1 ns1 SL1 fs1 ss1 ls1 (some ⟨W6.heap.size,0,none⟩) 1 G k4 ss4 from fun W6 pa pb pc qs A5 n5 c5' hm6 hpe=>by
        obtain⟨v5,sv5,fs5,G',hm⟩:=hm6;obtain⟨hl,hc5,hn5⟩:=hpe;have hr:=HREST.out;rw[<-hl]at hr;obtain⟨ek,ess⟩:=HEQ.out;have hat:=HA.out;have e1:ns1+k5+K+k6=ns+k3:=by rw[<-hat.ns,ek];omega
        have e2:ss1++ss5++ZaQ (slotN (hashL x.1) (ZJ ld)+2^ZA ld) (2^ZA (ld+1)) pg K++[.lay (if ZaC (hashL x.1) ld then loL lpg ld lps else hiL pg ld lps).pg (pageBk (if ZaC (hashL x.1) ld then loL lpg ld lps else hiL pg ld lps).bv)]++ss6=ss++ss3:=by rw[<-hat.ss,ess];simp only[List.append_assoc]
        exact⟨_,_,_,_,_,_,_,_,_,_,_,hm.next (l:=⟨pa,pb,pc,qs⟩) hc5 hn5 hr e1 e2 (ZqK hat.fsm (ZZe _)) (ZqL hat.nsm HP.out.dbl.few HP.out.K)⟩)
       clear hstA hltA hp hrest ek ess hsz1 hsz2 hst hkeep hin hws hfl hpx hbR c0 c1 c2 c3 p0 hbw hgw hww hn4 hc' hn';go_wp2_with fail
       go_region_held3 (fun W=>W.cell? ⟨g,0,none⟩=some (.int .i64 lpg)/\W.cell? ⟨g,1,none⟩=some (.int .i64 ld)/\W.cell? ⟨g,2,none⟩=some (.int .i64 0)/\W.cell? ⟨g,3,none⟩=some (.slice A' n' c')/\W.cell? ⟨w.heap.size,0,none⟩=some (.slice ka kn kc))
        (first|with_reducible exact c5|exact c5|with_reducible exact c4|with_reducible exact c6|with_reducible exact c7|with_reducible exact c8)
        (first
         | (go_at_call 165;(first|with_reducible refine Calls.mono (HOF.out _ bd) ?_|with_reducible refine Calls.mono (HOF.out _ bda) ?_);rintro e wO ⟨rfl,rfl⟩)
         | (go_at_call 213;with_reducible refine Calls.mono (HPG.out _ bd) ?_;rintro e wE ⟨u,rfl,hpd⟩;obtain⟨pa,pb,pc,qs,A5,n5,c5',rfl,hpo,ht5⟩:=hpd.shape;have hge:=HC7.out _ wE bd ht5;have c6:=HC6.out _ wE wE bd ht5 rfl rfl;have c7:=HC6.out _ wE (wE.alloc (.cells #[.int .i64 0,.int .i64 0,.int .i64 0,.slice none 0 0] 104 (0,0))) bd ht5 (hge.1 _ ((Below.refl _ _).alloc (ZZe _) _)) (hge.2 _ ((Below.refl _ _).alloc (ZZe _) _));have c8:=HC6.out _ wE (wE.alloc (.cells #[.int .i64 pa,.int .i64 pb,.int .i64 pc,.slice A5 n5 c5'] 104 (0,0))) bd ht5 (hge.1 _ ((Below.refl _ _).alloc (ZZe _) _)) (hge.2 _ ((Below.refl _ _).alloc (ZZe _) _));obtain⟨HM6,HPE,q0,q1,q2,q3⟩:=HB6.out wE pa pb pc qs A5 n5 c5' hpo;clear hpd hpo ht5 hge)
         | (go_at_call 213;with_reducible refine Calls.mono HPA.out ?_;rintro e wE ⟨u,rfl,hpd⟩;obtain⟨pa,pb,pc,qs,A5,n5,c5',rfl,hpo,ht5⟩:=hpd.shape;have hb9:=HB9.out wE ht5;obtain⟨z0,z1,z2,z3,fz,_⟩:=Za hb9;have f0:=fz 0;have f1:=fz 1;have f2:=fz 2;have f3:=fz 3;clear fz;have c6:=HC6.out _ wE wE bda ht5 rfl rfl;have c8:=HC6.out _ wE ((((wE.setCell ⟨wr.heap.size,0,none⟩ (.int .i64 pa)).setCell ⟨wr.heap.size,1,none⟩ (.int .i64 pb)).setCell ⟨wr.heap.size,2,none⟩ (.int .i64 pc)).setCell ⟨wr.heap.size,3,none⟩ (.slice A5 n5 c5')) bda ht5 (Z0 _ (Nat.ne_of_lt HLTS.out.1) _ _ _ _) (Z0 _ (Nat.ne_of_lt HLTS.out.2) _ _ _ _);obtain⟨HM6,HPE,q0,q1,q2,q3⟩:=HA6.out wE pa pb pc qs A5 n5 c5' hpo ht5;clear hpd hpo ht5))
       all_goals clear c4 c5 c6 c8 HPG HPA HOF HC6 HC7 HB9 HB6 HA6 C6
       all_goals try clear c7
       all_goals try clear z0 z1 z2 z3 f0 f1 f2 f3
       all_goals first
        | (obtain⟨W6,hW6⟩:∃W6,W6=(wE.alloc (.cells #[.int .i64 pa,.int .i64 pb,.int .i64 pc,.slice A5 n5 c5'] 104 (0,0))):=⟨_,rfl⟩;rw[<-hW6];rw[<-hW6]at HM6 q0 q1 q2 q3;clear hW6)
        | (obtain⟨W6,hW6⟩:∃W6,W6=((((wE.setCell ⟨wr.heap.size,0,none⟩ (.int .i64 pa)).setCell ⟨wr.heap.size,1,none⟩ (.int .i64 pb)).setCell ⟨wr.heap.size,2,none⟩ (.int .i64 pc)).setCell ⟨wr.heap.size,3,none⟩ (.slice A5 n5 c5')):=⟨_,rfl⟩;rw[<-hW6];rw[<-hW6]at HM6 q0 q1 q2 q3;clear hW6)
       all_goals (
        have HNEXT:=hid (HNX.out W6 pa pb pc qs A5 n5 c5' HM6.out HPE.out);clear HM6;go_wp2_with fail;clear HPE HNX
        go_roundg N1
        case measure=>exact Nat.lt_succ_self _
        case rel=>exact⟨_,1,1,rfl,HNEXT⟩)
end
section
variable{D:World->(Nat->Prop)->Addr->DS->Prop}{w0 w w':World}{F O:Nat->Prop}{p:Addr}{S:DS}{q r b st ch mb:Nat}{seq:Int}{L:List (Int×List Int)}{M M':MV}{v v' sv:Value}{ns:Nat}{SL:Int->Option Int}{fs:List Value}{ss:List Stp}
theorem Zpy(api:Zb D)(hS:SAt D w0 F O p S q seq r b st L)(h:ZF w0 w ch st mb M M' v v' sv ns SL fs ss){ka va:Option Addr}{kn kc vn vc:Nat}{x:KV}(hk:BIn w (GX ch mb v' sv) ka kn x.1)(hv:BIn w (GX ch mb v' sv) va vn x.2)(hkc:kn<=kc/\kn<=maxLen)(hvc:vn<=vc/\vn<=maxLen)
 {pg:Int} {ls:List Zw} (hc:Za0 S L M' x.1 pg ls) (hno:∀(m:Nat) (l:Zw),ls[m]?=some l->findI l.ps x.1<0) (hcnt : -9223372036854775808<=M'.c/\M'.c<9223372036854775807)
 {N:Nat} {M3:MV} {SL3:Int->Option Int} {k3:Nat} {ss3:List Stp} (hdo:AddDo S L M x (hashL x.1) N {M' with c:=M'.c+1} SL ls M3 SL3 k3 ss3) (hN:N<=11) (hm:fs.length<=3900000) (hns:ns<=3800000) :
 Calls prog 100 #[.pointer (some ⟨ch,0,none⟩),.agg #[.slice ka kn kc,.slice va vn vc]] w fun e w'=>e=.returned (.int .i64 0)/\∃v2 sv2 fs2,ZF w0 w' ch st mb M M3 v v2 sv2 (ns+k3) SL3 fs2 (ss++ss3)/\fs2.length<=fs.length+50000:=by
 obtain⟨A',c',hv'e,hc',hri⟩:=h.ri;have hfew:=h.few;obtain⟨w1,hw1⟩:∃w1,w1=w.alloc (.cells #[.slice ka kn kc,.slice va vn vc] 65):=⟨_,rfl⟩
 have hb1:Below w.heap.size w w1.drew:=by rw[hw1];exact((Below.refl _ _).alloc (ZZe _) _).drew
 have hz1:w1.drew.heap.size=w.heap.size+1:=by rw[hw1];show(w.alloc _).heap.size=_;simp
 have hp1:w1.drew.heap[w.heap.size]?=some (.cells #[.slice ka kn kc,.slice va vn vc] 65 (0,0)):=by rw[hw1];exact heap_alloc_new w _
 have hg1:=h.keep hb1;obtain⟨_,_,_,_,_,y6,y7,y8,y9,y10,_⟩:=hg1.at_.cells2;have y0:=hg1.at_.cells.1;rw[hv'e]at y10;have p0:w1.drew.cell? ⟨w.heap.size,0,none⟩=some (.slice ka kn kc):=by rw[cell_of_row _ _ 0 _ _ (0,0) hp1];rfl
 have hk1:=hk.below hb1;have HZ2:=hid (show ∀W,Below w1.drew.heap.size w1.drew W->W.cell? ⟨ch,0,none⟩=some (.pointer (some ⟨st,0,none⟩))/\W.cell? ⟨ch,6,none⟩=some (.int .i64 M'.d)/\W.cell? ⟨ch,7,none⟩=some (.int .i64 M'.f)/\W.cell? ⟨ch,8,none⟩=some (.int .i64 M'.n)/\W.cell? ⟨ch,9,none⟩=some (.int .i64 M'.c)/\W.cell? ⟨ch,10,none⟩=some (.slice A' M'.l.length c')/\W.cell? ⟨w.heap.size,0,none⟩=some (.slice ka kn kc)from fun W hb2=>⟨(hb2.cell (p:=⟨ch,0,none⟩) (World.block_lt_of_cell? _ _ y0)).trans y0,(hb2.cell (p:=⟨ch,6,none⟩) (World.block_lt_of_cell? _ _ y6)).trans y6,(hb2.cell (p:=⟨ch,7,none⟩) (World.block_lt_of_cell? _ _ y7)).trans y7,(hb2.cell (p:=⟨ch,8,none⟩) (World.block_lt_of_cell? _ _ y8)).trans y8,(hb2.cell (p:=⟨ch,9,none⟩) (World.block_lt_of_cell? _ _ y9)).trans y9,(hb2.cell (p:=⟨ch,10,none⟩) (World.block_lt_of_cell? _ _ y10)).trans y10,(hb2.cell (p:=⟨w.heap.size,0,none⟩) (World.block_lt_of_cell? _ _ p0)).trans p0⟩);have HCH:=hid (ZaX api ((hS.below api h.bel).below api hb1) M'.d M'.f M'.n M'.c (A0:=A') (cap:=c') (Kc:=kc) pg (hri.below hb1) hb1.size hc' (by unfold maxLen;omega) hk1.1 (ZZe _) hkc.2 hc.dir hc.ok hc.few hc.all);have HG:=hid h;have HB1:=hid hb1;have HK:=hid hk;have HV:=hid hv;have HP1:=hid hp1;have HZ1:=hid hz1;have HLT:=hid h.lt;have HNO:=hid hno;have hlen:ls.length<=4294967296:=by have:=hc.few;have:=hc.all;omega
 have HADD:=hid (show ∀(w2 wc:World) (A:Option Addr) (n c:Nat),ZF w0 w2 ch st mb M {M' with c:=M'.c+1} v v' sv ns SL fs ss->(∀k,GX ch mb v' sv k->k<wc.heap.size)->ZL wc w2 (.slice A n c) ls->n<=4294967296->BIn w2 (GX ch mb v' sv) ka kn x.1->BIn w2 (GX ch mb v' sv) va vn x.2->
  Calls prog 160 #[.pointer (some ⟨ch,0,none⟩),.slice A n c,.agg #[.slice ka kn kc,.slice va vn vc]] w2 fun e w'=>e=.returned (.int .i64 0)/\∃v2 sv2 fs2,ZF w0 w' ch st mb M M3 v v2 sv2 (ns+k3) SL3 fs2 (ss++ss3)/\fs2.length<=fs.length+50000 from
  fun w2 wc A n c hg hGX hch hn hk hv=>(Zri api hS hg (G:=GX ch mb v' sv) (fun _ h=>h) (fun k hk=>(hg.lt k hk).2) (fun _ h=>h) (LC.of_chain hch hdo.some_ hGX) hk hv hkc hvc hdo (by have:=hc.few;have:=hc.all;omega) hN hm hns).mono fun e w' z=>⟨z.1,by obtain⟨_,v2,sv2,fs2,z1,z2,_⟩:=z;exact⟨v2,sv2,fs2,z1,z2⟩⟩)
 have wrc:IntKind.i64.wrap (M'.c+1)=M'.c+1:=by rw[IntKind.wrap_i64];first|(unfold wrap64;omega)|omega
 clear h hk hv hb1 hp1 hg1 hk1 hno hdo hc hri hS hz1;go_enter func100,ntmps100;go_wp2_with fail;rw[<-hw1];clear hw1
 go_region_held3 (fun W=>W.cell? ⟨ch,0,none⟩=some (.pointer (some ⟨st,0,none⟩))/\W.cell? ⟨ch,6,none⟩=some (.int .i64 M'.d)/\W.cell? ⟨ch,7,none⟩=some (.int .i64 M'.f)/\W.cell? ⟨ch,8,none⟩=some (.int .i64 M'.n)/\W.cell? ⟨ch,9,none⟩=some (.int .i64 M'.c)/\W.cell? ⟨ch,10,none⟩=some (.slice A' M'.l.length c')/\W.cell? ⟨w.heap.size,0,none⟩=some (.slice ka kn kc))
  (first|with_reducible exact z2|exact⟨y0,y6,y7,y8,y9,y10,p0⟩)
  (first
   | (go_at_call 101;refine HCH.out.mono ?_;rintro e w2 ⟨A2,c2,rfl,hch2,hb2⟩;have z2:=HZ2.out w2 hb2))
 obtain⟨_,_,_,_,_,_,p2⟩:=z2;have hk2:=((HK.out.below HB1.out).below hb2)
 have HFI:=hid (ZaW (Kc:=kc) hch2 hk2.1 (ZZe _) hlen);have HCH2:=hid hch2;have HB2:=hid hb2;clear HCH hch2 hb2 hk2 y0 y6 y7 y8 y9 y10 p0 HZ2;go_wp2_with fail;refine HFI.out.mono ?_;rintro e w3⟨a,i,rfl,hfr,hb3⟩
 obtain⟨rfl,rfl⟩:a=0/\i = -1:=by
  rcases hfr with ⟨e1,e2,_⟩|⟨mm,ll,_,e1,e2,e3,_⟩
  · exact⟨e1,e2⟩
  · have:=HNO.out mm ll e1
    omega
 have hb13:=HB2.out.trans (hb3.mono HB2.out.size);have hb03:=HB1.out.trans (hb13.mono HB1.out.size);have hg3:=HG.out.keep hb03;obtain⟨_,_,_,_,_,_,_,_,x9,_,_⟩:=hg3.at_.cells2;have hat3:=hg3.at_;unfold ZcT at hat3;have f9:w3.frozen? ⟨ch,9,none⟩=false:=by simp[World.frozen?,hat3]
 have hchl:ch<w.heap.size:=(HLT.out ch (.inl rfl)).2;have hcl:ch<w1.drew.heap.size:=ZZd hchl HB1.out.size;have hp3:=(hb13.block w.heap.size (by rw[HZ1.out];omega)).trans HP1.out;obtain⟨w4,hw4⟩:∃w4,w4=w3.setCell ⟨ch,9,none⟩ (.int .i64 (M'.c+1)):=⟨_,rfl⟩
 have hp4:w4.heap[w.heap.size]?=some (.cells #[.slice ka kn kc,.slice va vn vc] 65 (0,0)):=by rw[hw4];exact(Below.heap_setCell _ ⟨ch,9,none⟩ _ _ (by show w.heap.size≠ch;omega)).trans hp3
 have q0:w4.cell? ⟨w.heap.size,0,none⟩=some (.slice ka kn kc):=by rw[cell_of_row _ _ 0 _ _ (0,0) hp4];rfl
 have q1:w4.cell? ⟨w.heap.size,1,none⟩=some (.slice va vn vc):=by rw[cell_of_row _ _ 1 _ _ (0,0) hp4];rfl
 have hsz4:w.heap.size<=w4.heap.size:=by rw[hw4];simpa[World.setCell] using hb03.size
 have hkept:∀k,k<w.heap.size->¬GX ch mb v' sv k->w4.heap[k]?=w.heap[k]?:=fun k hk hn=>by
  rw[hw4];exact(Below.heap_setCell _ ⟨ch,9,none⟩ _ _ (fun e=>hn (.inl e))).trans (hb03.block k hk)
 have HAD:=hid (HADD.out w4 w1.drew A2 ls.length c2 (by rw[hw4];exact hg3.setCount _) (fun k hk=>ZZd (HLT.out k hk).2 HB1.out.size) (by rw[hw4];exact(HCH2.out.below hb3).poke hcl _) hlen (HK.out.grow hsz4 hkept (fun _ _ h=>h)) (HV.out.grow hsz4 hkept (fun _ _ h=>h)));rw[hw4]at q0 q1;clear hfr hb3 hb13 hb03 hg3 hat3 hp3 hp4 hsz4 hkept HFI HADD p2 hcl;go_wp2_with fail;rw[<-hw4];clear hw4 q0 q1 x9 f9;refine HAD.out.mono ?_;rintro e w5⟨rfl,v2,sv2,fs2,hg5⟩;have HE:=hid hg5;clear hg5 HAD;go_wp2_with fail;go_ret;exact⟨rfl,v2,sv2,fs2,HE.out⟩
end
end Go.Proofs.YtlmkdmdbpopnhaaGreatDoor
