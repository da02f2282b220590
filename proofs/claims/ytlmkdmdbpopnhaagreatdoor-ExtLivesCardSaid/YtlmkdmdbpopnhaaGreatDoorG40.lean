/- ExwK, ExwL, ExwM, TxtP, ViewP, ExT. Conditions: in each theorem. -/
import Derived.Test.YtlmkdmdbpopnhaaGreatDoorG39
import Derived.Test.YtlmkdmdbpopnhaaGreatDoorG1
import Derived.Test.YtlmkdmdbpopnhaaGreatDoorG34
set_option maxRecDepth 100000
set_option linter.unusedVariables false
open Go.Proofs.Tryz
namespace Go.Proofs.YtlmkdmdbpopnhaaGreatDoor
open Go.RowKit
section
variable{S:DS}{L:List (Int×List Int)}{M:MV}{e e':Ex}{cap p g:Nat}{a t:Chn}{ps ps' ps1 ps2:List KV}{x y:KV}{key:List Int}
theorem ZkS{MF:MV}(hP:S.P=(cap:Int))(hH:ZX hashL e)(hl:e.dir.length=Z1 e.d)(hS:Zb3 cap e.nx e.fr)(hp:p∈e.bs)(hc:e.ch p=a++(g,ps)::t)(hz:szX ps'<=232)(hL:ZbS S L e (fun _=>False)) :
 (∀st∈[Stp.lay (g:Int) (pageBk ⟨(e.bd p:Int),(Zt (e.ch p) a.length:Int),ps'⟩)],Zba S MF st)/\ZbS S (runS S MF L [.lay (g:Int) (pageBk ⟨(e.bd p:Int),(Zt (e.ch p) a.length:Int),ps'⟩)]) {e with ch:=Z5 e.ch p (a++(g,ps')::t)} (fun _=>False):=by
 have hpgs:Zg (a++(g,ps')::t)=Zg (e.ch p):=by rw[hc];exact ZcK _ _ _ _ _
 have hnx:∀i,Zt (a++(g,ps')::t) i=Zt (e.ch p) i:=fun i=>by unfold Zt;rw[hpgs]
 have hm:(e.ch p)[a.length]?=some (g,ps):=by rw[hc,Zac,if_neg (Nat.lt_irrefl _),if_pos rfl]
 have hm':(a++(g,ps')::t)[a.length]?=some (g,ps'):=by rw[Zac,if_neg (Nat.lt_irrefl _),if_pos rfl]
 have hoth:∀i,i≠a.length->(a++(g,ps')::t)[i]?=(e.ch p)[i]?:=fun i hi=>by
  rw[hc,Zac,Zac];by_cases h:i<a.length
  · rw[if_pos h,if_pos h]
  · rw[if_neg h,if_neg h,if_neg hi,if_neg hi]
 have hgp:g∈Zg (e.ch p):=ZaA hm
 have hmb:8+szP ps'<=240:=by
  have:szP ps'=szX ps':=rfl
  omega
 have hupd:Z5 e.ch p (a++(g,ps')::t) p=a++(g,ps')::t:=ZT _ _ _
 obtain⟨h1,h2⟩:=ZbS.setLay (M:=MF) (e':={e with ch:=Z5 e.ch p (a++(g,ps')::t)}) (X':=fun _=>False) (g:=g) (b:=⟨(e.bd p:Int),(Zt (e.ch p) a.length:Int),ps'⟩) hP hL hH hS.2.1 hl hp rfl rfl (fun _ _=>rfl) (fun s hs=>⟨hs,fun hne=>⟨rfl,ZG _ _ hne⟩⟩) hL.free (fun g' hg' _=>hg'.elim) hgp ((hH.pg.apart.2.2.1 g (ZaT hp hgp)).2.2.1) hmb (fun i g' ps2 hi _ hne=>by
  rw[show({e with ch:=Z5 e.ch p (a++(g,ps')::t)}:Ex).ch p=a++(g,ps')::t from hupd]at hi ⊢
  have hia:i≠a.length:=fun e0=>by
   rw[e0,hm']at hi;exact hne (congrArg Prod.fst (Option.some.inj hi)).symm
  rw[hoth i hia]at hi
  exact⟨⟨i,hi,(hnx i).symm,rfl⟩,fun hXg=>hXg⟩) (fun i ps2 hi=>by
  rw[show({e with ch:=Z5 e.ch p (a++(g,ps')::t)}:Ex).ch p=a++(g,ps')::t from hupd]at hi ⊢;have hnd:=ZbD hH hp;rw[<-hpgs]at hnd;have hia:=ZcM hnd hi hm';subst hia;rw[hm']at hi;have hps:ps'=ps2:=congrArg Prod.snd (Option.some.inj hi)
  rw[hnx,<-hps])
 exact⟨fun st hst=>by obtain rfl:=List.mem_singleton.1 hst;exact h1,h2⟩
theorem Zgy{M3:MV}(hT:Zic e M3)(hc:M3.c=(e.pairs.length:Int)):M3=Zh e:=by
 obtain⟨d,f,n,c,l⟩:=M3;obtain⟨h1,h2,h3,h4⟩:=hT;simp only at h1 h2 h3 h4 hc;subst h1 h2 h3 h4 hc;rfl
theorem ZjA(hI:ZX hashL e)(hn:∀y∈e.pairs,y.1≠key):∀(m:Nat) (l:Zw),(ZI (e.bd (e.home hashL key)) (e.ch (e.home hashL key)))[m]?=some l->findI l.ps key<0:=fun m l hl=>by
 obtain⟨g,ps,hi,rfl⟩:=Zah hl
 have:findI ps key = -1:=ZeU fun j y hy=>hn y (List.mem_flatMap.2 ⟨_,hI.home_mem key,(Zcu hi).subset (List.mem_of_getElem? hy)⟩)
 show findI ps key<0;omega
theorem Zij(hI:ZX hashL e)(hy:y∈e.pairs):∃(a:Chn) (g:Nat) (ps1 ps2:List KV) (t:Chn),e.ch (e.home hashL y.1)=a++(g,ps1++y::ps2)::t/\
 Zcv (ZI (e.bd (e.home hashL y.1)) (e.ch (e.home hashL y.1))) y.1 a.length ps1.length ⟨(g:Int),(e.bd (e.home hashL y.1):Int),(Zt (e.ch (e.home hashL y.1)) a.length:Int),ps1++y::ps2⟩:=by
 have hm:=(hI.mem y).1 hy;obtain⟨s,_,_,hch⟩:=hI.at_ (hI.home_mem y.1);generalize e.ch (e.home hashL y.1)=c at hm hch ⊢;generalize e.bd (e.home hashL y.1)=b at hch ⊢;obtain⟨⟨g,ps⟩,h1,h2⟩:=List.mem_flatMap.1 hm;obtain⟨a,t,rfl⟩:=List.append_of_mem h1;obtain⟨ps1,ps2,e2⟩:=List.append_of_mem h2;have e2':ps=ps1++y::ps2:=e2;subst e2';refine⟨a,g,ps1,ps2,t,rfl,?_⟩;have hk:=hch.keys;rw[Zb2,ZbB,List.map_append,List.map_append,List.map_append,List.map_cons]at hk;obtain⟨k1,k2,k3⟩:=List.nodup_append.1 hk;obtain⟨k4,_,_⟩:=List.nodup_append.1 k2;obtain⟨k5,k6,k7⟩:=List.nodup_append.1 k4;have hget:(a++(g,ps1++y::ps2)::t)[a.length]?=some (g,ps1++y::ps2):=by rw[Zac,if_neg (Nat.lt_irrefl _),if_pos rfl]
 refine⟨ZaG hget,?_,?_,fun m' l' hm' hl'=>?_⟩
 · refine ZhN (x:=y) ?_ rfl (fun m z hm hz e0=>?_)
   · rw[Zac,if_neg (Nat.lt_irrefl _),if_pos rfl]
   · rw[Zac,if_pos hm]at hz;exact k7 z.1 (List.mem_map.2 ⟨z,List.mem_of_getElem? hz,rfl⟩) y.1 List.mem_cons_self e0
 · show ps1.length<(ps1++y::ps2).length;rw[List.length_append,List.length_cons];omega
 · obtain⟨g',ps',hi,rfl⟩:=Zah hl';rw[Zac,if_pos hm']at hi
   have:findI ps' y.1 = -1:=ZeU fun j z hz e0=>by
    refine k3 z.1 (List.mem_map.2 ⟨z,?_,rfl⟩) y.1 ?_ e0
    · exact List.mem_flatMap.2 ⟨(g',ps'),List.mem_of_getElem? hi,List.mem_of_getElem? hz⟩
    · exact List.mem_append.2 (.inl (List.mem_append.2 (.inr List.mem_cons_self)))
   show findI ps' y.1<0;omega
theorem Zar(ps1 ps2:List KV)(y:KV):(ps1++y::ps2).eraseIdx ps1.length=ps1++ps2:=by
 rw[List.eraseIdx_append_of_length_le (ZZe _),Nat.sub_self];rfl
end
section
variable{D:World->(Nat->Prop)->Addr->DS->Prop}{w w':World}{F O:Nat->Prop}{p:Addr}{S:DS}{q r b st:Nat}{seq:Int}{L:List (Int×List Int)}{e e':Ex}{cap:Nat}
theorem Zy.putNew(api:Zb D)(h:Top D w F O p S q seq r b st L)(hI:Zy S L e cap){ka va:Option Addr}{kn kc vn vc B B':Nat}{x:KV}(hk:RB w B ka kn x.1)(hB:B<=w.heap.size)(hv:RB w B' va vn x.2)(hB':B'<=w.heap.size)(hkc:kn<=kc/\kn<=maxLen)(hvc:vn<=vc/\vn<=maxLen)(hk1:1<=kn/\kn<=32)(hv1:vn<=120)
 (hn:∀y∈e.pairs,y.1≠x.1) (he:e.addF hashL cap 10 (e.home hashL x.1) x=some e') :
 ∃L',Zy S L' e' cap/\Calls prog 40 #[.pointer (some ⟨st,0,none⟩),.slice ka kn kc,.slice va vn vc] w fun e w'=>e=.returned (.int .i64 0)/\Zad D w F O p S q seq r b st L' w':=by
 have hx:Zh7 x:=⟨by rw[hk.1];exact hk1.1,by rw[hk.1];exact hk1.2,by rw[hv.1];exact hv1⟩
 have hfew:=ZcO hI.ok;have hnx:=hI.sm.2.1;have hcp:=hI.few;obtain⟨H2,hl2,hpr⟩:=hI.ok.addF hx 10 hI.dir rfl hn he;obtain⟨M3,SL3,k3,ss3,r1,r2,r3,r4,r5,r6⟩:=Zom (S:=S) (L:=L) (M:=Zh e) hI.P hI.pg hx 10 (M':={Zh e with c:=(Zh e).c+1}) (SL:=fun _=>none) hI.ok hI.dir rfl hn hI.sm (hI.lies.free.of hI.lies.pgs) ⟨rfl,rfl,rfl,rfl⟩ hI.slots he
 obtain rfl:M3=Zh e':=Zgy r2 (by
  rw[r3]
  show(e.pairs.length:Int)+1=_
  rw[hpr.length_eq,List.length_cons]
  omega)
 obtain⟨s1,s2⟩:=r6 (Zh e') L (fun _=>False) (Zii H2 hl2) hI.lies (fun g' hg'=>hg'.elim);obtain⟨o1,o2⟩:=hI.fin H2 hl2 r4 s1 s2;refine⟨_,o2,ZkQ api h hI.headIs hk hB hv hB' hkc hvc hk1 hv1 (hI.chain x.1) (ZjA hI.ok hn) ?_ r1 (by decide) (ZdG H2 r4 hI.few) (ZdV H2 hl2 r4 hI.few) o1⟩;show -9223372036854775808<=(e.pairs.length:Int)/\(e.pairs.length:Int)<9223372036854775807;omega
theorem Zy.delNone(api:Zb D)(h:Top D w F O p S q seq r b st L)(hI:Zy S L e cap){ka:Option Addr}{kn kc B:Nat}{key:List Int}(hk:RB w B ka kn key)(hB:B<=w.heap.size)(hkc:kn<=kc/\kn<=maxLen)(hn:∀y∈e.pairs,y.1≠key) :
 Calls prog 42 #[.pointer (some ⟨st,0,none⟩),.slice ka kn kc] w fun e w'=>e=.returned (.tuple #[.bool false,.int .i64 0])/\Below w.heap.size w w':=
 Zjy api h hI.headIs hk hB hkc (hI.chain key) (ZjA hI.ok hn)
end
section
variable{S:DS}{L:List (Int×List Int)}{M:MV}{e e':Ex}{cap p g gb:Nat}{a t:Chn}{ps ps' ps1 ps2 psb:List KV}{x y:KV}{key:List Int}
theorem ZpD{z:Nat×List KV}{i:Nat}(hi:i+1<a.length):Zt (a++t) i=Zt (a++z::t) i:=by
 unfold Zt;have hl:(Zg a).length=a.length:=by simp[Zg]
 rw[ZC,ZC,List.getElem?_append_left (by rw[hl];exact hi),List.getElem?_append_left (by rw[hl];exact hi)]
theorem ZlE{z:Nat×List KV}{i:Nat}(hi:a.length<=i+1):Zt (a++t) i=Zt (a++z::t) (i+1):=by
 unfold Zt;have hl:(Zg a).length=a.length:=by simp[Zg]
 rw[ZC,ZC,Zc5,List.getElem?_append_right (by rw[hl];exact hi),List.getElem?_append_right (by rw[hl];omega),hl,show i+1+1-a.length=(i+1-a.length)+1 from by omega,List.getElem?_cons_succ]
theorem Zik{b n:Nat}(hg:g<4294967296)(hb:b<=10)(hn:n<4294967296):Zdn ⟨(g:Int),(b:Int),(n:Int),ps⟩:=by
 unfold Zdn Zb1
 show((-9223372036854775808:Int)<=(g:Int)/\(g:Int)<=9223372036854775807)/\((-9223372036854775808:Int)<=(b:Int)/\(b:Int)<=9223372036854775807)/\((-9223372036854775808:Int)<=(n:Int)/\(n:Int)<=9223372036854775807)
 omega
theorem ZpE{MF:MV}(hP:S.P=(cap:Int))(hH:ZX hashL e)(hl:e.dir.length=Z1 e.d)(hS:Zb3 cap e.nx e.fr)(hp:p∈e.bs)(hc:e.ch p=(a++[(gb,psb)])++(g,[y])::t)(H2:ZX hashL {e with ch:=Z5 e.ch p ((a++[(gb,psb)])++t),fr:=g::e.fr})(hz:szX psb<=232)(hL:ZbS S L e (fun _=>False)) :
 (∀st∈[Stp.fr (g:Int) (ZaR e.fr),.lay (gb:Int) (pageBk ⟨(e.bd p:Int),(Zt (e.ch p) (a.length+1):Int),psb⟩)],Zba S MF st)/\ZbS S (runS S MF L [Stp.fr (g:Int) (ZaR e.fr),.lay (gb:Int) (pageBk ⟨(e.bd p:Int),(Zt (e.ch p) (a.length+1):Int),psb⟩)]) {e with ch:=Z5 e.ch p ((a++[(gb,psb)])++t),fr:=g::e.fr} (fun _=>False):=by
 have hal:(a++[(gb,psb)]).length=a.length+1:=by simp
 have hmg:(e.ch p)[a.length+1]?=some (g,[y]):=by rw[hc,Zac,hal,if_neg (Nat.lt_irrefl _),if_pos rfl]
 have hgp:g∈Zg (e.ch p):=ZaA hmg;obtain⟨a1,a2,a3,a4⟩:=hH.pg.apart;obtain⟨g0,g1,g2,g3⟩:=a3 g (ZaT hp hgp);have hnx:=hS.2.1;have hcc:=hS.1;have hhd:=Zc7 hS
 have hhf:ZaR e.fr<4294967296:=by
  unfold ZaR
  cases hfr:e.fr with
  | nil=>simp
  | cons b u=>
   have:=(a4 b (by rw[hfr];exact List.mem_cons_self)).2.2.2
   simp only[List.getElem?_cons_zero,Option.getD_some];omega
 have hst:Zba S MF (.fr (g:Int) (ZaR e.fr)):=⟨⟨by omega,by rw[hP];omega⟩,hhd.1,hhf⟩
 obtain⟨_,k2,k3⟩:=Zbj hL.pgs hst;have hupd:Z5 e.ch p ((a++[(gb,psb)])++t) p=(a++[(gb,psb)])++t:=ZT _ _ _;have hch':({e with ch:=Z5 e.ch p ((a++[(gb,psb)])++t),fr:=g::e.fr}:Ex).ch p=(a++[(gb,psb)])++t:=hupd;have hmb:((a++[(gb,psb)])++t)[a.length]?=some (gb,psb):=by rw[List.append_assoc,List.singleton_append,Zac,if_neg (Nat.lt_irrefl _),if_pos rfl]
 have hnd:=ZbD hH hp
 have hL1:ZbS S (Zby S MF L (.fr (g:Int) (ZaR e.fr))).2 {e with ch:=Z5 e.ch p ((a++[(gb,psb)])++t),fr:=g::e.fr} (fun z=>z=gb):=by
  refine⟨k2,fun s hs=>?_,fun g' b' hE hx=>?_,fun i q hq=>?_⟩
  · refine(hL.slots s hs).step hL.pgs hst fun e0=>?_
    obtain⟨q,hq,e1⟩:=Zie (dir:=e.dir) (s:=s) (by rw[hl];exact Zgt hs);rw[e1]at e0;exact g1 (by rw[<-Int.ofNat.inj (show(q:Int)=(g:Int)from e0)];exact hq)
  · obtain⟨s,hs,i,ps,hi,rfl⟩:=hE;have hs':s∈e.bs:=hs;have hi':(Z5 e.ch p ((a++[(gb,psb)])++t) s)[i]?=some (g',ps):=hi
    have hent:Ent e g' ⟨(e.bd s:Int),(Zt (Z5 e.ch p ((a++[(gb,psb)])++t) s) i:Int),ps⟩/\g'≠g:=by
     by_cases e0:s=p
     · subst e0;rw[hupd]at hi' ⊢;by_cases hlt:i<a.length+1
       · have hlt2:i<a.length:=by
          rcases Nat.lt_or_ge i a.length with h1|h1
          · exact h1
          · exfalso
            have:i=a.length:=by omega
            rw[this,hmb]at hi';exact hx (congrArg Prod.fst (Option.some.inj hi')).symm
         rw[List.getElem?_append_left (by rw[hal];exact hlt)]at hi';have hi2:(e.ch s)[i]?=some (g',ps):=by rw[hc,List.getElem?_append_left (by rw[hal];exact hlt)];exact hi'
         refine⟨⟨s,hs',i,ps,hi2,?_⟩,fun e1=>?_⟩
         · rw[hc,ZpD (z:=(g,[y])) (by rw[hal];omega)]
         · subst e1
           have:=ZcM hnd hi2 hmg
           omega
       · have hi2:(e.ch s)[i+1]?=some (g',ps):=by
          rw[List.getElem?_append_right (by rw[hal];omega),hal]at hi';rw[hc,Zac,hal,if_neg (by omega),if_neg (by omega),show i+1-(a.length+1+1)=i-(a.length+1)from by omega];exact hi'
         refine⟨⟨s,hs',i+1,ps,hi2,?_⟩,fun e1=>?_⟩
         · rw[hc,ZlE (z:=(g,[y])) (by rw[hal];omega)]
         · subst e1
           have:=ZcM hnd hi2 hmg
           omega
     · rw[ZG _ _ e0]at hi' ⊢;exact⟨⟨s,hs',i,ps,hi',rfl⟩,fun e1=>e0 (Zfb hH hs' hp (ZaA hi') (by rw[e1];exact hgp))⟩
    rw[k3,if_neg (show ¬(g':Int)=Zh5 MF (.fr (g:Int) (ZaR e.fr))from fun e1=>hent.2 (Int.ofNat.inj e1))];exact hL.ents g' _ hent.1 (fun h=>h)
  · cases i with
    | zero=>
     obtain rfl:g=q:=by simpa using hq
     refine⟨by rw[show ownD [(g:Int)] ((0:Nat):Int)=(g:Int)from Zc4 _];exact hst.1,?_⟩;rw[show ownD [(g:Int)] ((0:Nat):Int)=(g:Int)from Zc4 _,k3,if_pos (show(g:Int)=Zh5 MF (.fr (g:Int) (ZaR e.fr))from rfl)];exact Zjj (t:=0) (hL.pgs _ hst.1).2 (by decide) ⟨hhd.1,hhf⟩
    | succ i=>
     have hq':e.fr[i]?=some q:=by simpa using hq
     have h5:=hL.free i q hq';have h6:((g::e.fr)[i+1+1]?.getD 0)=(e.fr[i+1]?.getD 0):=by rw[List.getElem?_cons_succ]
     show Zay S _ [(q:Int)] 0 (((g::e.fr)[i+1+1]?.getD 0:Nat):Int);rw[h6];refine h5.step hL.pgs hst fun e1=>?_
     have e2:(q:Int)=(g:Int):=by rw[show ownD [(q:Int)] ((0:Nat):Int)=(q:Int)from Zc4 _]at e1;exact e1
     exact g2 (by rw[<-Int.ofNat.inj e2];exact List.mem_of_getElem? hq')
 have hgbp:gb∈Zg ((a++[(gb,psb)])++t):=ZaA hmb
 have hmz:8+szP psb<=240:=by
  have:szP psb=szX psb:=rfl
  omega
 have hnd2:(Zg ((a++[(gb,psb)])++t)).Nodup:=by
  have h1:=ZbD H2 (p:=p) hp;rw[hch']at h1;exact h1
 obtain⟨h1,h2⟩:=ZbS.setLay (M:=MF) (e:={e with ch:=Z5 e.ch p ((a++[(gb,psb)])++t),fr:=g::e.fr}) (e':={e with ch:=Z5 e.ch p ((a++[(gb,psb)])++t),fr:=g::e.fr}) (p:=p) (X':=fun _=>False) (g:=gb) (b:=⟨(e.bd p:Int),(Zt (e.ch p) (a.length+1):Int),psb⟩) hP hL1 H2 hnx hl hp rfl rfl (fun _ _=>rfl) (fun s hs=>⟨hs,fun _=>⟨rfl,rfl⟩⟩) hL1.free (fun g' hg' _=>by
  have e1:g'=gb:=hg';rw[hch',e1]
  exact hgbp) (by rw[hch'];exact hgbp) ((H2.pg.apart.2.2.1 gb (ZaT (e:={e with ch:=Z5 e.ch p ((a++[(gb,psb)])++t),fr:=g::e.fr}) (p:=p) hp (by rw[hch'];exact hgbp))).2.2.1) hmz (fun i g' ps' hi _ hne=>⟨⟨i,hi,rfl,rfl⟩,fun e0=>hne e0⟩) (fun i ps' hi=>by
  rw[hch']at hi ⊢;have hia:=ZcM hnd2 hi hmb;subst hia;rw[hmb]at hi;have hps:psb=ps':=congrArg Prod.snd (Option.some.inj hi)
  rw[<-hps,ZlE (z:=(g,[y])) (by rw[hal];omega),hc])
 refine⟨fun st hm=>?_,h2⟩;rcases List.mem_cons.1 hm with rfl|hm
 · exact hst
 · obtain rfl:=List.mem_singleton.1 hm;exact h1
end
theorem Zc9(b:Nat)(c:Chn)(i:Nat):(ZI b c)[i]?=(c[i]?).map fun z=>⟨(z.1:Int),(b:Int),(Zt c i:Int),z.2⟩:=by
 cases h:c[i]? with
 | none=>
  have h1:=List.getElem?_eq_none_iff.1 h;rw[List.getElem?_eq_none (by rw[Zan];exact h1)];rfl
 | some z=>exact ZaG h
theorem ZkT(b:Nat)(a t:Chn)(g:Nat)(ps ps':List KV):(ZI b (a++(g,ps)::t)).set a.length ⟨(g:Int),(b:Int),(Zt (a++(g,ps)::t) a.length:Int),ps'⟩=ZI b (a++(g,ps')::t):=by
 have hpgs:Zg (a++(g,ps')::t)=Zg (a++(g,ps)::t):=ZcK _ _ _ _ _;have hnx:∀i,Zt (a++(g,ps')::t) i=Zt (a++(g,ps)::t) i:=fun i=>by unfold Zt;rw[hpgs]
 refine List.ext_getElem? fun i=>?_
 by_cases hi:a.length=i
 · subst hi;rw[List.getElem?_set_self (by rw[Zan];simp),Zc9,Zac,if_neg (Nat.lt_irrefl _),if_pos rfl,hnx];rfl
 · rw[List.getElem?_set_ne hi,Zc9,Zc9,hnx,Zac,Zac];by_cases h:i<a.length
   · rw[if_pos h,if_pos h]
   · rw[if_neg h,if_neg h,if_neg (fun h=>hi h.symm),if_neg (fun h=>hi h.symm)]
section
variable{D:World->(Nat->Prop)->Addr->DS->Prop}{w w':World}{F O:Nat->Prop}{p:Addr}{S:DS}{q r b st:Nat}{seq:Int}{L:List (Int×List Int)}{e e':Ex}{cap:Nat}
theorem Zy.delThere(api:Zb D)(h:Top D w F O p S q seq r b st L)(hI:Zy S L e cap){ka:Option Addr}{kn kc B:Nat}{y:KV}(hk:RB w B ka kn y.1)(hB:B<=w.heap.size)(hkc:kn<=kc/\kn<=maxLen)(hy:y∈e.pairs) :
 ∃e' L',Zy S L' e' cap/\e.pairs.Perm (y::e'.pairs)/\Calls prog 42 #[.pointer (some ⟨st,0,none⟩),.slice ka kn kc] w fun e w'=>e=.returned (.tuple #[.bool true,.int .i64 0])/\Zad D w F O p S q seq r b st L' w':=by
 obtain⟨a,g,ps1,ps2,t,hc,hfd⟩:=Zij hI.ok hy;have hp:=hI.ok.home_mem y.1;have hchain:=hI.chain y.1;generalize hh:e.home hashL y.1=p0 at hc hfd hp hchain;obtain⟨s0,hs0,es0,hc0⟩:=hI.ok.at_ hp;have hfew:=ZcO hI.ok;have hnx:=hI.sm.2.1;have hcp:=hI.few;have hdeep:=hI.ok.sl.deep p0 hp;have hd10:=hI.ok.d;have hpg:=hI.sm.pages hI.ok hp;have hm:(e.ch p0)[a.length]?=some (g,ps1++y::ps2):=by rw[hc,Zac,if_neg (Nat.lt_irrefl _),if_pos rfl]
 have hnl:∀i,Zt (e.ch p0) i<4294967296:=fun i=>ZeJ fun g hg=>(hpg g hg).1
 have hLI:Zdn ⟨(g:Int),(e.bd p0:Int),(Zt (e.ch p0) a.length:Int),ps1++y::ps2⟩:=Zik (hpg g (ZaA hm)).1 (by omega) (hnl _);have hsz:szX (ps1++y::ps2)<=232:=hc0.size (g,ps1++y::ps2) (List.mem_of_getElem? hm);have hln:(ps1++y::ps2).length<=4294967295:=by have:=Zgu hsz;omega
 have hpos:0<e.pairs.length:=List.length_pos_of_mem hy
 have hcnt : -9223372036854775808<(Zh e).c/\(Zh e).c<=9223372036854775807:=by
  show -9223372036854775808<(e.pairs.length:Int)/\(e.pairs.length:Int)<=9223372036854775807;omega
 by_cases hcase:a = []∨ps1++ps2≠[]
 · obtain⟨H2,hpr⟩:=hI.ok.dropF hp hc hcase;have hlen:=hpr.length_eq;rw[List.length_cons]at hlen;have hz:szX (ps1++ps2)<=232:=ZZf (Ze7 ((List.sublist_cons_self y ps2).append_left ps1)) hsz;obtain⟨s1,s2⟩:=ZkS (MF:=Zh {e with ch:=Z5 e.ch p0 (a++(g,ps1++ps2)::t)}) (ps':=ps1++ps2) hI.P hI.ok hI.dir hI.sm hp hc hz hI.lies;obtain⟨o1,o2⟩:=hI.fin (e':={e with ch:=Z5 e.ch p0 (a++(g,ps1++ps2)::t)}) H2 hI.dir hI.sm s1 s2
   have hM:({Zh e with c:=(Zh e).c-1}:MV)=Zh {e with ch:=Z5 e.ch p0 (a++(g,ps1++ps2)::t)}:=Zgy ⟨rfl,rfl,rfl,rfl⟩ (by
    show(e.pairs.length:Int)-1=_
    omega)
   have hmay:ZD ⟨(e.bd p0:Int),(Zt (e.ch p0) a.length:Int),ps1++ps2⟩=true:=by
    have hsub:(ps1++ps2).Sublist (ps1++y::ps2):=(List.sublist_cons_self y ps2).append_left ps1;have hsub2:=hsub.trans (Zcu hm);exact Zc8 hz (fun z hz=>hc0.ok z (hsub2.subset hz)) (hc0.keys.sublist (hsub2.map _)) (by omega) (hnl _)
   refine⟨_,_,o2,hpr,?_⟩
   have hcall:=ZmO api h hI.headIs hk hB hkc hchain hcnt hfd (by
    rcases hcase with h1|h1
    · exact .inl (by rw[h1];rfl)
    · refine .inr ?_
      show((ps1++y::ps2).eraseIdx ps1.length).length≠0
      rw[Zar]
      exact fun h2=>h1 (List.length_eq_zero_iff.1 h2)) hln hLI (by
    show ZD ⟨(e.bd p0:Int),(Zt (e.ch p0) a.length:Int),(ps1++y::ps2).eraseIdx ps1.length⟩=true;rw[Zar]
    exact hmay) (by rw[hM];exact ZdG H2 hI.sm hI.few) (by rw[hM];exact ZdV H2 hI.dir hI.sm hI.few) (by
    show okS S _ L (ZcA _ _ [.lay (g:Int) (pageBk ⟨(e.bd p0:Int),(Zt (e.ch p0) a.length:Int),(ps1++y::ps2).eraseIdx ps1.length⟩)]);rw[Zar,hM]
    exact o1)
   refine hcall.mono fun e1 w1 z=>⟨z.1,?_⟩
   have z2:Zad D w F O p S q seq r b st (runS S {Zh e with c:=(Zh e).c-1} L (ZcA (Zh e) {Zh e with c:=(Zh e).c-1} [.lay (g:Int) (pageBk ⟨(e.bd p0:Int),(Zt (e.ch p0) a.length:Int),(ps1++y::ps2).eraseIdx ps1.length⟩)])) w1:=z.2;rw[Zar,hM]at z2;exact z2
 · have ha:a≠[]:=fun h1=>hcase (.inl h1)
   have hps:ps1++ps2 = []:=Classical.not_not.1 fun h1=>hcase (.inr h1)
   obtain⟨rfl,rfl⟩:=List.append_eq_nil_iff.1 hps;rw[List.nil_append]at hc hfd hm hLI hsz hln;obtain⟨H2,hpr⟩:=hI.ok.freeF hp hc ha;have hlen:=hpr.length_eq;rw[List.length_cons]at hlen;obtain⟨a1,⟨gb,psb⟩,rfl⟩:∃a1 z,a=a1++[z]:=⟨a.dropLast,a.getLast ha,(List.dropLast_concat_getLast ha).symm⟩
   have hal:(a1++[(gb,psb)]).length=a1.length+1:=by simp
   rw[hal]at hfd hm hLI;have hmb:(e.ch p0)[a1.length]?=some (gb,psb):=by rw[hc,List.append_assoc,List.singleton_append,Zac,if_neg (Nat.lt_irrefl _),if_pos rfl]
   have hzb:szX psb<=232:=hc0.size (gb,psb) (List.mem_of_getElem? hmb);have hg:=hI.ok.pg.apart.2.2.1 g (ZaT hp (ZaA hm))
   have hS2:Zb3 cap e.nx (g::e.fr):=⟨hI.sm.1,hI.sm.2.1,fun z hz=>by
    rcases List.mem_cons.1 hz with rfl|hz
    · omega
    · exact hI.sm.2.2 z hz⟩
   obtain⟨s1,s2⟩:=ZpE (MF:=Zh {e with ch:=Z5 e.ch p0 ((a1++[(gb,psb)])++t),fr:=g::e.fr}) hI.P hI.ok hI.dir hI.sm hp hc H2 hzb hI.lies;obtain⟨o1,o2⟩:=hI.fin (e':={e with ch:=Z5 e.ch p0 ((a1++[(gb,psb)])++t),fr:=g::e.fr}) H2 hI.dir hS2 s1 s2
   have hM:({Zh e with c:=(Zh e).c-1,f:=(g:Int)}:MV)=Zh {e with ch:=Z5 e.ch p0 ((a1++[(gb,psb)])++t),fr:=g::e.fr}:=Zgy ⟨rfl,rfl,rfl,rfl⟩ (by
    show(e.pairs.length:Int)-1=_
    omega)
   have hmay:ZD ⟨(e.bd p0:Int),(Zt (e.ch p0) (a1.length+1):Int),psb⟩=true:=
    Zc8 hzb (fun z hz=>hc0.ok z ((Zcu hmb).subset hz)) (hc0.keys.sublist ((Zcu hmb).map _)) (by omega) (hnl _)
   refine⟨_,_,o2,hpr,?_⟩;have hhd:=Zc7 hI.sm
   have hcall:=Zjx api h hI.headIs hk hB hkc hchain hcnt hfd rfl (m1:=a1.length) rfl (lb:=⟨(gb:Int),(e.bd p0:Int),(Zt (e.ch p0) a1.length:Int),psb⟩) (ZaG hmb) (Zik (hpg gb (ZaA hmb)).1 (by omega) (hnl _)) (by show Zb1 (ZaR e.fr);unfold Zb1;omega) hln hLI hmay (by
    show Zfe {Zh e with c:=(Zh e).c-1,f:=(g:Int)}
    rw[hM];exact ZdG H2 hS2 hI.few) (by
    show Zft {Zh e with c:=(Zh e).c-1,f:=(g:Int)}=true
    rw[hM];exact ZdV H2 hI.dir hS2 hI.few) (by
    show okS S {Zh e with c:=(Zh e).c-1,f:=(g:Int)} L (ZcA (Zh e) {Zh e with c:=(Zh e).c-1,f:=(g:Int)} [.fr (g:Int) (ZaR e.fr),.lay (gb:Int) (pageBk ⟨(e.bd p0:Int),(Zt (e.ch p0) (a1.length+1):Int),psb⟩)]);rw[hM]
    exact o1)
   refine hcall.mono fun e1 w1 z=>⟨z.1,?_⟩
   have z2:Zad D w F O p S q seq r b st (runS S {Zh e with c:=(Zh e).c-1,f:=(g:Int)} L (ZcA (Zh e) {Zh e with c:=(Zh e).c-1,f:=(g:Int)} [.fr (g:Int) (ZaR e.fr),.lay (gb:Int) (pageBk ⟨(e.bd p0:Int),(Zt (e.ch p0) (a1.length+1):Int),psb⟩)])) w1:=z.2;rw[hM]at z2;exact z2
theorem Zy.putOld(api:Zb D)(h:Top D w F O p S q seq r b st L)(hI:Zy S L e cap){ka va:Option Addr}{kn kc vn vc B B':Nat}{x y:KV}(hk:RB w B ka kn x.1)(hB:B<=w.heap.size)(hv:RB w B' va vn x.2)(hB':B'<=w.heap.size)(hkc:kn<=kc/\kn<=maxLen)(hvc:vn<=vc/\vn<=maxLen)(hk1:1<=kn/\kn<=32)(hv1:vn<=120)
 (hy:y∈e.pairs) (hxy:x.1=y.1) (hroom:1044+e.pairs.length<=cap) :
 ∃e' L',Zy S L' e' cap/\(∃R,e.pairs.Perm (y::R)/\e'.pairs.Perm (x::R))/\Calls prog 40 #[.pointer (some ⟨st,0,none⟩),.slice ka kn kc,.slice va vn vc] w fun e w'=>e=.returned (.int .i64 0)/\Zad D w F O p S q seq r b st L' w':=by
 have hx:Zh7 x:=⟨by rw[hk.1];exact hk1.1,by rw[hk.1];exact hk1.2,by rw[hv.1];exact hv1⟩
 obtain⟨a,g,ps1,ps2,t,hc,hfd⟩:=Zij hI.ok hy;have hp:=hI.ok.home_mem y.1;have hchain:=hI.chain x.1;rw[<-hxy]at hc hfd hp;have hk0:e.home hashL x.1=e.home hashL x.1:=rfl;generalize hh:e.home hashL x.1=p0 at hc hfd hp hchain;obtain⟨s0,hs0,es0,hc0⟩:=hI.ok.at_ hp;have hfew:=ZcO hI.ok;have hnx:=hI.sm.2.1;have hcp:=hI.few;have hdeep:=hI.ok.sl.deep p0 hp;have hd10:=hI.ok.d;have hpg:=hI.sm.pages hI.ok hp;have hm:(e.ch p0)[a.length]?=some (g,ps1++y::ps2):=by rw[hc,Zac,if_neg (Nat.lt_irrefl _),if_pos rfl]
 have hnl:∀i,Zt (e.ch p0) i<4294967296:=fun i=>ZeJ fun g hg=>(hpg g hg).1
 have hLI:Zdn ⟨(g:Int),(e.bd p0:Int),(Zt (e.ch p0) a.length:Int),ps1++y::ps2⟩:=Zik (hpg g (ZaA hm)).1 (by omega) (hnl _);have hsz:szX (ps1++y::ps2)<=232:=hc0.size (g,ps1++y::ps2) (List.mem_of_getElem? hm);have hln:(ps1++y::ps2).length<=4294967295:=by have:=Zgu hsz;omega
 have hz:szX (ps1++ps2)<=232:=ZZf (Ze7 ((List.sublist_cons_self y ps2).append_left ps1)) hsz;have hsub:(ps1++ps2).Sublist (ps1++y::ps2):=(List.sublist_cons_self y ps2).append_left ps1;have hsub2:=hsub.trans (Zcu hm)
 have hszx:szP (ps1++ps2++[x])<=4611686018427387904:=by
  obtain⟨x1,x2,x3⟩:=hx;rw[ZhL]
  have:szP (ps1++ps2)=szX (ps1++ps2):=rfl
  omega
 by_cases hfit:szX (ps1++ps2++[x])<=232
 · obtain⟨H2,R,hR1,hR2⟩:=hI.ok.swapF hp hc hxy hx hfit;have hlen1:=hR1.length_eq;have hlen2:=hR2.length_eq;rw[List.length_cons]at hlen1 hlen2;obtain⟨s1,s2⟩:=ZkS (MF:=Zh {e with ch:=Z5 e.ch p0 (a++(g,ps1++ps2++[x])::t)}) (ps':=ps1++ps2++[x]) hI.P hI.ok hI.dir hI.sm hp hc hfit hI.lies;obtain⟨o1,o2⟩:=hI.fin (e':={e with ch:=Z5 e.ch p0 (a++(g,ps1++ps2++[x])::t)}) H2 hI.dir hI.sm s1 s2
   have hM:Zh e=Zh {e with ch:=Z5 e.ch p0 (a++(g,ps1++ps2++[x])::t)}:=Zgy ⟨rfl,rfl,rfl,rfl⟩ (by
    show(e.pairs.length:Int)=_
    omega)
   have hmay:ZD ⟨(e.bd p0:Int),(Zt (e.ch p0) a.length:Int),ps1++ps2++[x]⟩=true:=by
    obtain⟨s3,_,_,hc3⟩:=H2.at_ (p:=p0) hp;have hch3:({e with ch:=Z5 e.ch p0 (a++(g,ps1++ps2++[x])::t)}:Ex).ch p0=a++(g,ps1++ps2++[x])::t:=ZT _ _ _;rw[hch3]at hc3;have hm3:(a++(g,ps1++ps2++[x])::t)[a.length]?=some (g,ps1++ps2++[x]):=by rw[Zac,if_neg (Nat.lt_irrefl _),if_pos rfl]
    exact Zc8 hfit (fun z hz=>hc3.ok z ((Zcu hm3).subset hz)) (hc3.keys.sublist ((Zcu hm3).map _)) (by omega) (hnl _)
   refine⟨_,_,o2,⟨R,hR1,hR2⟩,?_⟩
   have hdo:Zpz S L (Zh e) x 10 (Zh e) (fun _=>none) (ZI (e.bd p0) (e.ch p0)) a.length ps1.length ⟨(g:Int),(e.bd p0:Int),(Zt (e.ch p0) a.length:Int),ps1++y::ps2⟩ (Zh e) (fun _=>none) 0 [.lay (g:Int) (pageBk ⟨(e.bd p0:Int),(Zt (e.ch p0) a.length:Int),ps1++ps2++[x]⟩)]:=by
    refine .inl ⟨?_,?_,rfl,rfl,rfl,?_⟩
    · show Zdo x ⟨(g:Int),(e.bd p0:Int),(Zt (e.ch p0) a.length:Int),(ps1++y::ps2).eraseIdx ps1.length⟩;rw[Zar,ZdT];exact hfit
    · show ZD ⟨(e.bd p0:Int),(Zt (e.ch p0) a.length:Int),(ps1++y::ps2).eraseIdx ps1.length++[x]⟩=true;rw[Zar];exact hmay
    · show _ = [Stp.lay (g:Int) (pageBk ⟨(e.bd p0:Int),(Zt (e.ch p0) a.length:Int),(ps1++y::ps2).eraseIdx ps1.length++[x]⟩)];rw[Zar]
   rw[<-hM]at o1 ⊢
   exact Zgx api h hI.headIs hk hB hv hB' hkc hvc hk1 hv1 hchain (by rw[hxy];rw[hxy]at hfd;exact hfd) hLI hln (by
    show szP ((ps1++y::ps2).eraseIdx ps1.length++[x])<=_
    rw[Zar];exact hszx) hdo (by decide) (ZdG hI.ok hI.sm hI.few) (ZdV hI.ok hI.dir hI.sm hI.few) o1
 · have hne:ps1++ps2≠[]:=fun h1=>hfit (by
    obtain⟨x1,x2,x3⟩:=hx;rw[h1];simp[szX]
    omega)
   obtain⟨H2,hpr⟩:=hI.ok.dropF hp hc (.inr hne);have hlen:=hpr.length_eq;rw[List.length_cons]at hlen;have hk1':Ex.home hashL {e with ch:=Z5 e.ch p0 (a++(g,ps1++ps2)::t)} x.1=p0:=hh
   have hn1:∀z∈({e with ch:=Z5 e.ch p0 (a++(g,ps1++ps2)::t)}:Ex).pairs,z.1≠x.1:=fun z hz e0=>by
    have hkk:=(hpr.map (·.1)).nodup_iff.1 hI.ok.keys;rw[List.map_cons,List.nodup_cons]at hkk;exact hkk.1 (List.mem_map.2 ⟨z,hz,by rw[e0,hxy]⟩)
   obtain⟨e',he⟩:=H2.addF_some (cap:=cap) hx 10 hI.dir hk1' (by omega) (by omega);obtain⟨H3,hl3,hpr3⟩:=H2.addF hx 10 hI.dir hk1' hn1 he;have hlen3:=hpr3.length_eq;rw[List.length_cons]at hlen3;obtain⟨M3,SL3,k3,ss3,r1,r2,r3,r4,r5,r6⟩:=Zom (S:=S) (L:=L) (M:=Zh e) hI.P hI.pg hx 10 (M':=Zh e) (SL:=fun _=>none) H2 hI.dir hk1' hn1 hI.sm (hI.lies.free.of hI.lies.pgs) ⟨rfl,rfl,rfl,rfl⟩ hI.slots he
   obtain rfl:M3=Zh e':=Zgy r2 (by
    rw[r3]
    show(e.pairs.length:Int)=_
    omega)
   obtain⟨s1,s2⟩:=ZkS (MF:=Zh e') (ps':=ps1++ps2) hI.P hI.ok hI.dir hI.sm hp hc hz hI.lies;obtain⟨s3,s4⟩:=r6 (Zh e') _ (fun _=>False) (Zii H3 hl3) s2 (fun g' hg'=>hg'.elim)
   have hmay:ZD ⟨(e.bd p0:Int),(Zt (e.ch p0) a.length:Int),ps1++ps2⟩=true:=
    Zc8 hz (fun z hz=>hc0.ok z (hsub2.subset hz)) (hc0.keys.sublist (hsub2.map _)) (by omega) (hnl _)
   obtain⟨o1,o2⟩:=hI.fin (e':=e') H3 hl3 r4 (ss:=[.lay (g:Int) (pageBk ⟨(e.bd p0:Int),(Zt (e.ch p0) a.length:Int),ps1++ps2⟩)]++ss3) (fun z hz'=>by
    rcases List.mem_append.1 hz' with h1|h1
    · exact s1 z h1
    · exact s3 z h1) (by rw[ZbA];exact s4)
   refine⟨e',_,o2,⟨_,hpr,hpr3⟩,?_⟩
   have hdo:Zpz S L (Zh e) x 10 (Zh e) (fun _=>none) (ZI (e.bd p0) (e.ch p0)) a.length ps1.length ⟨(g:Int),(e.bd p0:Int),(Zt (e.ch p0) a.length:Int),ps1++y::ps2⟩ (Zh e') SL3 k3 ([.lay (g:Int) (pageBk ⟨(e.bd p0:Int),(Zt (e.ch p0) a.length:Int),ps1++ps2⟩)]++ss3):=by
    refine .inr ⟨?_,?_,ss3,?_,?_⟩
    · show ¬Zdo x ⟨(g:Int),(e.bd p0:Int),(Zt (e.ch p0) a.length:Int),(ps1++y::ps2).eraseIdx ps1.length⟩;rw[Zar,ZdT];exact hfit
    · show ZD ⟨(e.bd p0:Int),(Zt (e.ch p0) a.length:Int),(ps1++y::ps2).eraseIdx ps1.length⟩=true;rw[Zar];exact hmay
    · show _ = [Stp.lay (g:Int) (pageBk ⟨(e.bd p0:Int),(Zt (e.ch p0) a.length:Int),(ps1++y::ps2).eraseIdx ps1.length⟩)]++ss3;rw[Zar]
    · show AddDo S L (Zh e) x (hashL x.1) 10 (Zh e) (fun _=>none) ((ZI (e.bd p0) (e.ch p0)).set a.length ⟨(g:Int),(e.bd p0:Int),(Zt (e.ch p0) a.length:Int),(ps1++y::ps2).eraseIdx ps1.length⟩) (Zh e') SL3 k3 ss3;rw[Zar,hc,ZkT];have hch2:({e with ch:=Z5 e.ch p0 (a++(g,ps1++ps2)::t)}:Ex).ch p0=a++(g,ps1++ps2)::t:=ZT _ _ _;rw[hch2]at r1;exact r1
   exact Zgx api h hI.headIs hk hB hv hB' hkc hvc hk1 hv1 hchain (by rw[hxy];rw[hxy]at hfd;exact hfd) hLI hln (by
    show szP ((ps1++y::ps2).eraseIdx ps1.length++[x])<=_
    rw[Zar];exact hszx) hdo (by decide) (ZdG H3 r4 hI.few) (ZdV H3 hl3 r4 hI.few) o1
end
abbrev Txt:=List UInt8
def tx(l:List Int):Txt:=l.map fun n=>UInt8.ofNat n.toNat
def by_(x:Txt):List Int:=x.map fun u=>(u.toNat:Int)
theorem ZjB(x:Txt):tx (by_ x)=x:=by
 unfold tx by_;rw[List.map_map]
 conv=>rhs;rw[<-List.map_id x]
 refine List.map_congr_left fun u _=>?_
 simp
theorem ZpF{l:List Int}(h:Ze l):by_ (tx l)=l:=by
 unfold tx by_;rw[List.map_map]
 conv=>rhs;rw[<-List.map_id l]
 refine List.map_congr_left fun x hx=>?_
 obtain⟨a,b⟩:=h x hx;simp;omega
theorem Zqf{x y:Txt}(h:by_ x=by_ y):x=y:=by rw[<-ZjB x,<-ZjB y,h]
theorem ZaI(x:Txt):¬x<x:=List.lt_irrefl x
theorem ZdH{x y z:Txt}(h:x<y)(g:y<z):x<z:=List.lt_trans h g
theorem tlt_tri(x y:Txt):x<y∨x=y∨y<x:=by
 by_cases h:x<y
 · exact .inl h
 · by_cases g:y<x
   · exact .inr (.inr g)
   · exact .inr (.inl (List.le_antisymm (List.not_lt.1 g) (List.not_lt.1 h)))
section
variable{β:Type}
def Zak(L:List (Txt×β))(x:Txt):Option β:=match L with
 | []=>none
 | p::r=>if p.1=x then some p.2 else Zak r x
theorem ZdW(p:Txt×β)(r:List (Txt×β))(x:Txt):Zak (p::r) x=if p.1=x then some p.2 else Zak r x:=rfl
def ZbT(L:List (Txt×β)):Prop:=L.Pairwise fun p q=>p.1<q.1
def Zff:List (Txt×β)->Txt->β->List (Txt×β)
 | [],x,v=>[(x,v)]
 | p::r,x,v=>if p.1<x then p::Zff r x v else if p.1=x then(x,v)::r else(x,v)::p::r
def Zfg(L:List (Txt×β))(x:Txt):List (Txt×β):=L.filter fun p=>decide (p.1≠x)
theorem ZjC{L:List (Txt×β)}{x:Txt}{v:β}(h:Zak L x=some v):(x,v)∈L:=by
 induction L with
 | nil=>cases h
 | cons p r ih=>
  unfold Zak at h
  split at h
  · rename_i e
    cases h;rw[<-e];exact List.mem_cons_self ..
  · exact List.mem_cons_of_mem _ (ih h)
theorem Zfh{L:List (Txt×β)}{x:Txt}:Zak L x=none↔∀p∈L,p.1≠x:=by
 induction L with
 | nil=>simp[Zak]
 | cons p r ih=>
  unfold Zak;split
  · rename_i e
    constructor
    · intro h;cases h
    · intro h;exact absurd e (h p (List.mem_cons_self ..))
  · rename_i e
    rw[ih];constructor
    · intro h q hq;rcases List.mem_cons.1 hq with rfl|hq
      · exact e
      · exact h q hq
    · intro h q hq;exact h q (List.mem_cons_of_mem _ hq)
theorem ZbT.look{L:List (Txt×β)}(h:ZbT L){x:Txt}{v:β}(hm:(x,v)∈L):Zak L x=some v:=by
 induction L with
 | nil=>cases hm
 | cons p r ih=>
  obtain⟨h1,h2⟩:=List.pairwise_cons.1 h;unfold Zak;rcases List.mem_cons.1 hm with rfl|hm
  · simp
  · have:=h1 _ hm
    rw[if_neg (fun e=>by rw[e]at this;exact ZaI _ this)];exact ih h2 hm
theorem ZbT.tail{p:Txt×β}{L:List (Txt×β)}(h:ZbT (p::L)):ZbT L:=(List.pairwise_cons.1 h).2
theorem ZbT.head{p:Txt×β}{L:List (Txt×β)}(h:ZbT (p::L)):∀q∈L,p.1<q.1:=(List.pairwise_cons.1 h).1
theorem mem_setT{L:List (Txt×β)}{x:Txt}{v:β}{q:Txt×β}(h:q∈Zff L x v):q=(x,v)∨q∈L:=by
 induction L with
 | nil=>exact .inl (List.mem_singleton.1 h)
 | cons p r ih=>
  unfold Zff at h
  split at h
  · rcases List.mem_cons.1 h with rfl|h
    · exact .inr (List.mem_cons_self ..)
    · rcases ih h with a|a
      · exact .inl a
      · exact .inr (List.mem_cons_of_mem _ a)
  · split at h
    · rcases List.mem_cons.1 h with rfl|h
      · exact .inl rfl
      · exact .inr (List.mem_cons_of_mem _ h)
    · rcases List.mem_cons.1 h with rfl|h
      · exact .inl rfl
      · exact .inr h
theorem ZbT.set{L:List (Txt×β)}(h:ZbT L)(x:Txt)(v:β):ZbT (Zff L x v):=by
 induction L with
 | nil=>exact List.pairwise_singleton _ _
 | cons p r ih=>
  unfold Zff;split
  · rename_i e
    refine List.pairwise_cons.2 ⟨fun q hq=>?_,ih h.tail⟩;rcases mem_setT hq with rfl|hq
    · exact e
    · exact h.head q hq
  · split
    · rename_i e
      refine List.pairwise_cons.2 ⟨fun q hq=>?_,h.tail⟩;rw[<-e];exact h.head q hq
    · rename_i e1 e2
      have hx:x<p.1:=by
       rcases tlt_tri p.1 x with a|a|a
       · exact absurd a e1
       · exact absurd a e2
       · exact a
      refine List.pairwise_cons.2 ⟨fun q hq=>?_,h⟩;rcases List.mem_cons.1 hq with rfl|hq
      · exact hx
      · exact ZdH hx (h.head q hq)
theorem ZbT.filter{L:List (Txt×β)}(h:ZbT L)(p:Txt×β->Bool):ZbT (L.filter p):=List.Pairwise.filter _ h
theorem ZbT.del{L:List (Txt×β)}(h:ZbT L)(x:Txt):ZbT (Zfg L x):=h.filter _
theorem ZlF(L:List (Txt×β))(x:Txt):(Zfg L x).length<=L.length:=List.length_filter_le _ _
end
abbrev TL:=List (Txt×List Int)
namespace VS
end VS
def kvT(q:Txt×List Int):KV:=(by_ q.1,q.2)
theorem ZqM{a b:Txt×List Int}(h:kvT a=kvT b):a=b:=by
 unfold kvT at h;simp only[Prod.mk.injEq]at h;exact Prod.ext (Zqf h.1) h.2
theorem ZlG:∀{T:TL} {k:Txt} {v:List Int},ZbT T->Zak T k=none->(Zff T k v).Perm ((k,v)::T)
 | [],k,v,_,_=>List.Perm.refl _
 | q::T,k,v,hr,hn=>by
  rw[ZdW]at hn
  split at hn
  · cases hn
  · rename_i hne
    show(if q.1<k then q::Zff T k v else if q.1=k then(k,v)::T else(k,v)::q::T).Perm _
    split
    · exact((ZlG hr.tail hn).cons q).trans (List.Perm.swap _ _ _)
    · exact List.Perm.refl _
theorem ZlH:∀{T:TL} {k:Txt} {v u:List Int},ZbT T->Zak T k=some u->∃R,T.Perm ((k,u)::R)/\(Zff T k v).Perm ((k,v)::R)
 | [],k,v,u,_,h=>by cases h
 | q::T,k,v,u,hr,h=>by
  rw[ZdW]at h
  split at h
  · rename_i he
    obtain rfl:=Option.some.inj h;subst he;refine⟨T,List.Perm.refl _,?_⟩
    show(if q.1<q.1 then q::Zff T q.1 v else if q.1=q.1 then(q.1,v)::T else(q.1,v)::q::T).Perm _
    rw[if_neg (ZaI _),if_pos rfl]
  · rename_i hne
    have hm:=ZjC h;have hlt:q.1<k:=hr.head _ hm;obtain⟨R,h1,h2⟩:=ZlH (v:=v) hr.tail h;refine⟨q::R,(h1.cons q).trans (List.Perm.swap _ _ _),?_⟩
    show(if q.1<k then q::Zff T k v else if q.1=k then(k,v)::T else(k,v)::q::T).Perm _
    rw[if_pos hlt];exact(h2.cons q).trans (List.Perm.swap _ _ _)
theorem ZlI:∀{T:TL} {k:Txt} {u:List Int},ZbT T->Zak T k=some u->T.Perm ((k,u)::Zfg T k)
 | [],k,u,_,h=>by cases h
 | q::T,k,u,hr,h=>by
  rw[ZdW]at h;unfold Zfg
  split at h
  · rename_i he
    obtain rfl:=Option.some.inj h;subst he
    have e1:(T.filter fun p=>decide (p.1≠q.1))=T:=List.filter_eq_self.2 fun p hp=>by
     have:=hr.head p hp
     exact decide_eq_true fun e=>ZaI q.1 (by rw[e]at this;exact this)
    rw[List.filter_cons,if_neg (by simp),e1]
  · rename_i hne
    rw[List.filter_cons,if_pos (by simpa using hne)];exact((ZlI hr.tail h).cons q).trans (List.Perm.swap _ _ _)
theorem Zot{T:TL}{k:Txt}(h:Zak T k=none):Zfg T k=T:=
 List.filter_eq_self.2 fun p hp=>decide_eq_true (Zfh.1 h p hp)
def Zcw(e:Ex)(T:TL):Prop:=ZbT T/\(T.map kvT).Perm e.pairs
section
variable{h:List Int->Nat}{e e':Ex}{T:TL}{k:Txt}
theorem Zcw.len(H:Zcw e T):e.pairs.length=T.length:=by rw[<-H.2.length_eq,List.length_map]
theorem Zcw.look(H:Zcw e T){v:List Int}:Zak T k=some v↔(by_ k,v)∈e.pairs:=by
 constructor
 · intro hl;exact H.2.mem_iff.1 (List.mem_map.2 ⟨_,ZjC hl,rfl⟩)
 · intro hm;obtain⟨q,hq,e1⟩:=List.mem_map.1 (H.2.mem_iff.2 hm);obtain rfl:q=(k,v):=ZqM e1;exact H.1.look hq
theorem Zcw.no(H:Zcw e T):Zak T k=none↔∀y∈e.pairs,y.1≠by_ k:=by
 rw[Zfh];constructor
 · intro hn y hy;obtain⟨q,hq,rfl⟩:=List.mem_map.1 (H.2.mem_iff.2 hy);exact fun e1=>hn q hq (Zqf e1)
 · intro hn q hq e1;exact hn (kvT q) (H.2.mem_iff.1 (List.mem_map.2 ⟨q,hq,rfl⟩)) (by rw[<-e1];rfl)
theorem Zcw.putNew(H:Zcw e T)(hn:Zak T k=none){v:List Int}(hp:e'.pairs.Perm ((by_ k,v)::e.pairs))(hr:ZbT (Zff T k v)):Zcw e' (Zff T k v):=by
 refine⟨hr,((ZlG H.1 hn).map kvT).trans ?_⟩;rw[List.map_cons];exact(H.2.cons _).trans hp.symm
theorem Zcw.old_rest(H:Zcw e T){u:List Int}(hl:Zak T k=some u){y:KV}{R:List KV}(hk:(e.pairs.map (·.1)).Nodup)(hy:y.1=by_ k)(hp:e.pairs.Perm (y::R)){Q:TL}(hQ:T.Perm ((k,u)::Q)):y=(by_ k,u)/\(Q.map kvT).Perm R:=by
 have hm:=H.look.1 hl;have h1:=(hp.map (·.1)).nodup_iff.1 hk;rw[List.map_cons,List.nodup_cons]at h1
 have e1:y=(by_ k,u):=by
  rcases List.mem_cons.1 (hp.mem_iff.1 hm)with e|hm
  · exact e.symm
  · exact absurd (List.mem_map.2 ⟨_,hm,hy.symm⟩) h1.1
 refine⟨e1,?_⟩;subst e1;have h2:=(hQ.map kvT).symm.trans (H.2.trans hp);rw[List.map_cons]at h2;exact h2.cons_inv
theorem Zcw.putOld(H:Zcw e T){u:List Int}(hl:Zak T k=some u){y:KV}{R:List KV}(hk:(e.pairs.map (·.1)).Nodup)(hy:y.1=by_ k)(hp:e.pairs.Perm (y::R)){v:List Int}(hp':e'.pairs.Perm ((by_ k,v)::R))(hr:ZbT (Zff T k v)):Zcw e' (Zff T k v):=by
 obtain⟨Q,h1,h2⟩:=ZlH (v:=v) H.1 hl;obtain⟨_,h3⟩:=H.old_rest hl hk hy hp h1;refine⟨hr,(h2.map kvT).trans ?_⟩;rw[List.map_cons];exact(h3.cons _).trans hp'.symm
theorem Zcw.del(H:Zcw e T){u:List Int}(hl:Zak T k=some u){y:KV}(hk:(e.pairs.map (·.1)).Nodup)(hy:y.1=by_ k)(hp:e.pairs.Perm (y::e'.pairs))(hr:ZbT (Zfg T k)):Zcw e' (Zfg T k):=by
 obtain⟨_,h3⟩:=H.old_rest hl hk hy hp (ZlI H.1 hl);exact⟨hr,h3⟩
theorem Zgz{α:Type}[BEq α][LawfulBEq α]:∀{l m:List α},l.Nodup->m.Nodup->(∀x,x∈l↔x∈m)->l.Perm m
 | [],m,_,_,hs=>by
  cases m with
  | nil=>exact List.Perm.refl _
  | cons a m=>exact absurd ((hs a).2 List.mem_cons_self) List.not_mem_nil
 | x::l,m,hl,hm,hs=>by
  have hx:=(hs x).1 List.mem_cons_self;rw[List.nodup_cons]at hl
  have h1:=Zgz (l:=l) (m:=m.erase x) hl.2 (hm.erase x) fun y=>by
   rw[List.Nodup.mem_erase_iff hm];constructor
   · intro hy;exact⟨fun e1=>hl.1 (by rw[<-e1];exact hy),(hs y).1 (List.mem_cons_of_mem _ hy)⟩
   · rintro⟨hne,hy⟩;rcases List.mem_cons.1 ((hs y).2 hy)with e1|h2
     · exact absurd e1 hne
     · exact h2
  exact(h1.cons x).trans (List.perm_cons_erase hx).symm
def Zel:Ex:={d:=0,dir:=[1],sl:=fun _=>2,bd:=fun _=>0,ch:=fun _=>[(2,[])],bs:=[2],fr:=[],nx:=3}
theorem ZmQ(h:List Int->Nat):ZX h Zel/\Zel.dir.length=Z1 Zel.d/\Zcw Zel []:=by
 refine⟨⟨Nat.zero_le _,⟨by decide,fun p=>?_,fun p _=>ZZe _,fun s t hs ht=>?_⟩,fun s hs=>?_,⟨by decide,by decide,rfl⟩⟩,by decide,List.Pairwise.nil,List.Perm.refl _⟩
 · show p∈[2]↔∃s,s<2^0/\2=p;rw[List.mem_singleton];exact⟨fun e=>⟨0,by decide,e.symm⟩,fun⟨_,_,e⟩=>e.symm⟩
 · show(2=2↔s%2^0=t%2^0)
   rw[Nat.pow_zero,Nat.mod_one,Nat.mod_one];exact⟨fun _=>rfl,fun _=>rfl⟩
 · refine⟨⟨[],[],rfl,fun _=>rfl,fun x hx=>absurd hx List.not_mem_nil⟩,fun x hx=>?_,fun x hx=>?_,fun x hx=>?_,?_⟩
   · exact absurd (show x∈([]:List KV)from hx) List.not_mem_nil
   · obtain rfl:=List.mem_singleton.1 (show x∈[(2,([]:List KV))]from hx);decide
   · exact absurd (show x∈([]:List KV)from hx) List.not_mem_nil
   · exact List.nodup_nil
end
end Go.Proofs.YtlmkdmdbpopnhaaGreatDoor
