/- AnyZ, Zdf, ExwR, ExwS, ExwT, ExwU. Conditions: in each theorem. -/
import Derived.Test.YtlmkdmdbpopnhaaGreatDoorG46
import Derived.Test.YtlmkdmdbpopnhaaGreatDoorG45
import Derived.Sort.Walk0
import Derived.Lib.AppendZeros
set_option maxHeartbeats 6400000
set_option maxRecDepth 100000
set_option linter.unusedVariables false
open Go.Proofs.Tryz
open Go.Lib (hid)
namespace Go.Proofs.YtlmkdmdbpopnhaaGreatDoor
open Go.RowKit
section
variable{P:Program}{ops:Array Oper}{Q:Exit->Act->World->Prop}{md:Region.Mode}{S:World->Prop}{z:Nat}
def Zdi(P:Program)(md:Region.Mode)(ops:Array Oper)(Q:Exit->Act->World->Prop)(S:World->Prop)(z:Nat):Nat->Array Bool->Act->World->Prop
 | 0,Zx,a,w=>Region.ready md ops Zx = []/\Q .normal a w
 | fuel+1,Zx,a,w=>
  (Region.ready md ops Zx = []->Q .normal a w)/\
  ∀j∈Region.ready md ops Zx,(j=z->wpOp P ops Q j (fun a' w'=>wpAny P md ops Q fuel (Zx.setIfInBounds j true) a' w') a w)/\
   (j≠z->wpOp P ops Q j (fun a' w'=>S w'/\Zdi P md ops Q S z fuel (Zx.setIfInBounds j true) a' w') a w)
theorem Zfj:∀(fuel:Nat) (Zx:Array Bool) (a:Act) (w:World),Zdi P md ops Q S z fuel Zx a w->wpAny P md ops Q fuel Zx a w
 | 0,_,_,_,h=>h
 | fuel+1,_,_,_,h=>⟨h.1,fun j hj=>by
  by_cases hw:j=z
  · exact(h.2 j hj).1 hw
  · exact wpOp_mono (fun a' w' h'=>Zfj fuel _ a' w' h'.2) ((h.2 j hj).2 hw)⟩
theorem ZjL{i:Nat}{oi:Oper}{v:Value}(hi:ops[i]?=some oi)(hiz:i≠z)(hzw:Region.waitsFor md ops z i=true)(hsel:∀(j:Nat) (o:Oper) cs b,ops[j]?=some o->o.op≠.select cs b)
 (hQ:∀c a w,Q (.panic c) (a.put oi.dst v) w->Q (.panic c) a w) :
 ∀(fuel:Nat) (Zx:Array Bool) (a:Act) (w:World),
  (∀j oj,ops[j]?=some oj->j≠i->Zx.getD j true=false->(∀e∈oj.after,Region.binds md e=true->e.on≠i)->oi.apart ops oj=true)->
  i∈Region.ready md ops Zx->YieldsIf P ops S oi v a->S w->
  Zdi P md ops Q S z fuel (Zx.setIfInBounds i true) (a.put oi.dst v) w->Zdi P md ops Q S z (fuel+1) Zx a w:=by
 intro fuel
 induction fuel with
 | zero=>
  intro Zx a w _ hr hy hS H;refine⟨fun h=>(by rw[h]at hr;cases hr),fun j hj=>?_⟩;by_cases hji:j=i
  · subst hji;exact⟨fun e=>absurd e hiz,fun _=>hy.wpOp hi hS ⟨hS,H⟩⟩
  · have:=ready_mono hj hji
    rw[H.1]at this;cases this
 | succ fuel ih=>
  intro Zx a w hfree hr hy hS H;refine⟨fun h=>(by rw[h]at hr;cases hr),fun j hj=>?_⟩;by_cases hji:j=i
  · subst hji;exact⟨fun e=>absurd e hiz,fun _=>hy.wpOp hi hS ⟨hS,H⟩⟩
  · obtain⟨hjun,oj,hoj,hall⟩:=mem_ready.1 hj
    have hnot:∀e∈oj.after,Region.binds md e=true->e.on≠i:=fun e he hb heq=>by
     have h1:=hall e he hb;have h0:=(mem_ready.1 hr).1;rw[heq]at h1;rcases Nat.lt_or_ge i Zx.size with h'|h'
     · simp[h']at h0 h1;rw[h0]at h1;cases h1
     · simp[Array.getElem?_eq_none h']at h1
    refine⟨fun e=>?_,fun hjz=>?_⟩
    · subst e;obtain⟨oj',hoj',e,he,hb,heq⟩:=Region.waitsFor_spec hzw;rw[hoj]at hoj';cases hoj';exact absurd heq (hnot e he hb)
    have h1:=(H.2 j (ready_mono hj hji)).2 hjz;have h2:=wpOp_putIf hoj (hfree j oj hoj hji hjun hnot) (fun cs b=>hsel i oi cs b hi) (fun cs b=>hsel j oj cs b hoj) hQ hy h1
    have hfree':∀k ok,ops[k]?=some ok->k≠i->(Zx.setIfInBounds j true).getD k true=false->
     (∀e∈ok.after,Region.binds md e=true->e.on≠i)->oi.apart ops ok=true:=fun k ok hk hki hun hno=>by
     refine hfree k ok hk hki ?_ hno;by_cases hjk:j=k
     · subst hjk;exact hjun
     · rw[getD_set_ne true hjk]at hun;exact hun
    refine wpOp_mono (fun a' w' h3=>⟨h3.2.1,ih (Zx.setIfInBounds j true) a' w' hfree' (ready_mono hr (Ne.symm hji)) h3.1 h3.2.1 ?_⟩) h2;rw[Array.setIfInBounds_comm _ _ hji];exact h3.2.2
theorem Zl{i:Nat}{oi:Oper}{v:Value}{fuel:Nat}{Zx:Array Bool}{a:Act}{w:World}(hi:ops[i]?=some oi)(hiz:i≠z)(hzw:Region.waitsFor md ops z i=true)
 (hs:Region.noSelect ops=true) (hf:Region.free md ops Zx i=true) (hr:(Region.ready md ops Zx).contains i=true)
 (hQ:∀c a w,Q (.panic c) (a.put oi.dst v) w->Q (.panic c) a w) (hy:YieldsIf P ops S oi v a) (hS:S w)
 (h:Zdi P md ops Q S z fuel (Zx.setIfInBounds i true) (a.put oi.dst v) w):Zdi P md ops Q S z (fuel+1) Zx a w:=
 ZjL hi hiz hzw (Region.noSelect_spec hs) hQ fuel Zx a w (Region.free_spec hi hf) (by simpa using hr) hy hS h
theorem Zz{j fuel:Nat}{o:Oper}{Zx:Array Bool}{a:Act}{w:World}(ho:ops[j]?=some o)(hr:Region.ready md ops Zx = [j])(hjz:j≠z)
 (h:∀K':Act->World->Prop,(∀a w,S w->Zdi P md ops Q S z fuel (Zx.setIfInBounds j true) a w->K' a w)->if Region.wanted o (yielded ops a.tmps)=true then Oper.wp P o a w K' Q else K' (a.put o.dst undef) w):Zdi P md ops Q S z (fuel+1) Zx a w:=by
 refine⟨fun h0=>(by rw[hr]at h0;cases h0),fun k hk=>?_⟩;rw[hr]at hk;obtain rfl:=List.mem_singleton.1 hk;exact⟨fun e=>absurd e hjz,fun _=>wpOp_step ho (fun K' hK=>h K' (fun a w h1 h2=>hK a w ⟨h1,h2⟩))⟩
theorem Zhw{j k fuel:Nat}{o o':Oper}{Zx:Array Bool}{a:Act}{w:World}(ho:ops[j]?=some o)(ho':ops[k]?=some o')(hr:Region.ready md ops Zx = [j,k])(hjz:j≠z)(hkz:k≠z)
 (h:∀K':Act->World->Prop,(∀a w,S w->Zdi P md ops Q S z fuel (Zx.setIfInBounds j true) a w->K' a w)->if Region.wanted o (yielded ops a.tmps)=true then Oper.wp P o a w K' Q else K' (a.put o.dst undef) w)
 (h':∀K':Act->World->Prop,(∀a w,S w->Zdi P md ops Q S z fuel (Zx.setIfInBounds k true) a w->K' a w)->if Region.wanted o' (yielded ops a.tmps)=true then Oper.wp P o' a w K' Q else K' (a.put o'.dst undef) w):Zdi P md ops Q S z (fuel+1) Zx a w:=by
 refine⟨fun h0=>(by rw[hr]at h0;cases h0),fun m hm=>?_⟩;rw[hr]at hm;rcases List.mem_cons.1 hm with rfl|hm
 · exact⟨fun e=>absurd e hjz,fun _=>wpOp_step ho (fun K' hK=>h K' (fun a w h1 h2=>hK a w ⟨h1,h2⟩))⟩
 · obtain rfl:=List.mem_singleton.1 hm;exact⟨fun e=>absurd e hkz,fun _=>wpOp_step ho' (fun K' hK=>h' K' (fun a w h1 h2=>hK a w ⟨h1,h2⟩))⟩
theorem Zdb{fuel:Nat}{o:Oper}{Zx:Array Bool}{a:Act}{w:World}(ho:ops[z]?=some o)(hr:Region.ready md ops Zx = [z])
 (h:∀K':Act->World->Prop,(∀a w,wpAny P md ops Q fuel (Zx.setIfInBounds z true) a w->K' a w)->if Region.wanted o (yielded ops a.tmps)=true then Oper.wp P o a w K' Q else K' (a.put o.dst undef) w):Zdi P md ops Q S z (fuel+1) Zx a w:=by
 refine⟨fun h0=>(by rw[hr]at h0;cases h0),fun k hk=>?_⟩;rw[hr]at hk;obtain rfl:=List.mem_singleton.1 hk;exact⟨fun _=>wpOp_step ho h,fun e=>absurd rfl e⟩
end
end Go.Proofs.YtlmkdmdbpopnhaaGreatDoor
namespace Go.Proofs.YtlmkdmdbpopnhaaGreatDoor
open Go.RowKit Go.Maps
theorem Zu{P:Program}{ops:Array Oper}{o:Oper}{a:Act}{w:World}{K:Act->World->Prop}{Q:Exit->Act->World->Prop}{E:Prop}(hgd:o.guard=none)(s x:Operand)(t tn:TypeId)
 (ho:o.op=.call {callee:=.builtin .append,args:=#[s,x],argTypes:=#[t,tn]}) (v u:Value) (hs:a.eval s=v) (hx:a.eval x=u) {v':Value} {w':World}
 (hrun:(Builtin.append_ #[t,tn] o.type #[v,u]).run P w=.ok v' w') (h:K (a.put o.dst v') w') :
 if Region.wanted o (yielded ops a.tmps)=true then Oper.wp P o a w K Q else E:=by
 have hw:Region.wanted o (yielded ops a.tmps)=true:=by simp[Region.wanted,hgd]
 rw[if_pos hw];exact Lib.wp_append_run w s x t tn ho v u hs hx _ _ hrun h
theorem ZcQ{F:Nat->Prop}{a b c:World}(h:RowKit.Below a.heap.size a b)(k:Zf F b c):Zf F a c:=
 ⟨k.os.trans h.os,k.tape.trans h.tape,k.output.trans h.output,ZZf h.size k.size,fun i hi hF=>(k.block i (ZZd hi h.size) hF).trans (h.block i hi)⟩
section
variable{w w':World}{X X' Y:Nat->Prop}{t base:Nat}{L:TL}
theorem ZmX(h:Zbm w X t L)(hX:∀k,X k->k<w.heap.size)(hN:L.length<=2147483647){A A':Option Addr}{n k B n' k' B':Nat}{l l':List Int}(hr:RB w B A n l)(hB:B<=w.heap.size)(hn:n<=140737488355328)(hr':RB w B' A' n' l')(hB':B'<=w.heap.size)(hn':n'<=140737488355328) :
 Calls prog 47 #[.pointer (some ⟨t,0,none⟩),.slice A n k,.slice A' n' k'] w fun e w'=>e=.returned (.tuple #[])/\Zbm w' X t (Zff L (tx l) l')/\Zf (fun k=>k=t) w w':=by
 obtain⟨uk,w1,hrun1,hs1,hb1⟩:=ZbX (k:=k) hr hB hn 55;obtain⟨uv,w2,hrun2,hs2,hb2⟩:=ZbX (k:=k') (hr'.below (hb1.mono hB')) (ZZf hB' hb1.size) hn' 55;obtain⟨w3,hw3⟩:∃w3,w3=w2.alloc (.cells #[uk,uv] 65 (0,0)):=⟨_,rfl⟩
 obtain⟨pb,hpb⟩:∃pb,pb=w2.heap.size:=⟨_,rfl⟩
 have hb3:RowKit.Below w2.heap.size w2 w3:=by rw[hw3];exact(RowKit.Below.refl _ _).alloc (ZZe _) _
 have hbk:w3.heap[pb]?=some (.cells #[uk,uv] 65 (0,0)):=by rw[hw3,hpb];exact heap_alloc_new _ _
 have hpl:pb<w3.heap.size:=by rw[hw3,hpb];simp
 have hb23:=hb2.trans (hb3.mono hb2.size);have hb03:=hb1.trans (hb23.mono hb1.size)
 have sk:SV w3 X uk (by_ (tx l)):=by
  rw[ZpF hr.bytes];exact(hs1.keep hb23.size (fun _ _ h=>h) (fun k hk _=>hb23.block k hk)).far (fun k hk=>hX k hk)
 have sv:SV w3 X uv l':=(hs2.keep hb3.size (fun _ _ h=>h) (fun k hk _=>hb3.block k hk)).far (fun k hk=>ZZd (hX k hk) hb1.size);have h3:=h.below hb03;have HT:=hid h3;obtain⟨TA,N,TC,ht,_,hs⟩:=h3;have hc0:w3.cell? ⟨t,0,none⟩=some (.slice TA N TC):=by rw[cell_of_row w3 t 0 _ _ (0,0) ht];rfl
 have hfz:w3.frozen? ⟨t,0,none⟩=false:=frozen_of_row w3 t 0 _ _ ht;have hk0:w3.cell? ⟨pb,0,none⟩=some uk:=by rw[cell_of_row w3 pb 0 _ _ (0,0) hbk];rfl
 have hk1:w3.cell? ⟨pb,1,none⟩=some uv:=by rw[cell_of_row w3 pb 1 _ _ (0,0) hbk];rfl
 have hNL:L.length=N:=hs.2.1;rw[hNL]at hN;have HR:=hid (hr.below (hb03.mono hB));have HS:=hid hs;have HSK:=hid sk;have HSV:=hid sv;have HBK:=hid hbk;have HC:=hid (ZZg hc0 (ZZg HT.out.lt hNL));have HK:=hid (ZZg hk0 (ZZg hk1 hpl));have HFZ:=hid hfz;have HB03:=hid hb03;have HXl:=hid (show ∀k,X k->k<w3.heap.size from fun k hk=>ZZd (hX k hk) hb03.size);have hB3:B<=w3.heap.size:=ZZf hB hb03.size;have HRUN1:=hid hrun1;have HRUN2:=hid hrun2;obtain⟨KA,KN,KC,rfl⟩:=hs1.slice;obtain⟨VA,VN,VC,rfl⟩:=hs2.slice;clear hrun1 hrun2 hs1 hs2 hb1 hb2 hb3 hb23 hbk sk sv hr hr' ht hs hc0 hNL hX hb03 h hk0 hk1 hpl hfz hn hn' hB hB';go_enter func47,ntmps47;have tok1:True:=trivial
 go_wp2_with (first
  | (at_builtin;have _t:=tok1;clear tok1;refine Lib.wpList_append_run _ rfl _ _ _ _ rfl _ _ rfl rfl _ _ HRUN1.out ?_;have tok2:True:=trivial)
  | (at_builtin;have _t:=tok2;clear tok2;refine Lib.wpList_append_run _ rfl _ _ _ _ rfl _ _ rfl rfl _ _ HRUN2.out ?_))
 rw[<-hw3,<-hpb];clear hw3 hpb HRUN1 HRUN2
 go_loopw[7] (fun i wr=>∃j:Nat,j<=N/\i=.int .i64 j/\Hid ((∀(a:Nat) (y:Txt×List Int),a<j->L[a]?=some y->y.1<tx l)/\RowKit.Below w3.heap.size w3 wr)) (fun i _=>N-(intOf i).toNat)
 case atStart=>exact⟨0,Nat.zero_le _,rfl,hid ⟨fun a y h=>absurd h (Nat.not_lt_zero _),RowKit.Below.refl _ _⟩⟩
 case round=>
  obtain⟨j,hj,rfl,HM⟩:=hrel;obtain⟨hno,hb⟩:=HM.out;have c0:=(hb.cell (p:=⟨t,0,none⟩) HC.out.2.1).trans HC.out.1;by_cases hlt:j<N
  · obtain⟨x,hx⟩:∃x,L[j]?=some x:=⟨_,ZZc (by rw[HC.out.2.2];exact hlt)⟩
    have hsp:=HS.out;obtain⟨_,_,hp⟩:=hsp;obtain⟨b,off,rfl,hbl,_,hp⟩:=hp (by omega);obtain⟨u1,u2,c1,c2,s1,s2⟩:=hp j x hx;have c1':=(hb.cell (p:=⟨b,off+j*2,none⟩) hbl).trans c1;obtain⟨A1,n1,k1,rfl,_,_,z1,_⟩:=s1
    have v1:∀q,(convert 55 9 (.slice A1 n1 k1)).run prog (wr.drewN q)=.ok (encStr x.1) (wr.drewN q):=fun q=>by
     have:(convert 55 9 (.slice A1 n1 k1)).run prog (wr.drewN q)=.ok (encStr (tx (by_ x.1))) (wr.drewN q):=(z1.below (ZY hb q)).conv k1
     rwa[ZjB]at this
    have v2:∀q,(convert 55 9 (.slice A n k)).run prog (wr.drewN q)=.ok (encStr (tx l)) (wr.drewN q):=fun q=>(HR.out.below ((ZY hb q).mono hB3)).conv k
    have hj64:(j:Int)<(N:Int):=by omega
    have HX0:=hid hx;have HNO:=hid hno;have HB:=hid hb;by_cases hlx:x.1<tx l
    · have hq:Op.bytesLess x.1 (tx l)=true:=by rw[bytesLess_eq];exact decide_eq_true hlx
      have HN:=hid (show(∀(a:Nat) (y:Txt×List Int),a<j+1->L[a]?=some y->y.1<tx l)from fun a y ha hy=>by
       rcases Nat.lt_or_ge a j with h|h
       · exact HNO.out a y h hy
       · obtain rfl:a=j:=by omega
         rw[HX0.out]at hy;cases hy
         exact hlx)
      clear hx z1 hb hno hp hlx c1 c2;go_wp2_with fail
      go_quiet (fail)
      go_wp2;go_roundw
      case rel=>exact⟨j+1,by omega,by go_num,hid ⟨HN.out,ZY HB.out _⟩⟩
      case measure=>simp[intOf];omega
    · have hq:Op.bytesLess x.1 (tx l)=false:=by rw[bytesLess_eq];exact decide_eq_false hlx
      by_cases hxe:x.1=tx l
      · have hq2:(x.1 == tx l)=true:=by simpa using hxe
        have HXE:=hid hxe;have HREP:=hid (ZoI (v:=l') HNO.out HX0.out hxe);have HJ:=hid (show j<L.length by rw[HC.out.2.2];exact hlt);have HPU:=hid (fun q=>((Z3.start HXl.out).below (ZY HB.out q)).pushL HS.out (by simp;omega) 31);clear hx z1 hb hno hp c1 c2 hxe hlx;go_wp2_with fail
        go_quiet (fail)
        revert nq
        intro nq1;go_wp2_with fail
        go_quiet (fail)
        obtain⟨v6,w6,hr6,hT6,_⟩:=HPU.out (nq1+nq);rw[List.nil_append]at hT6;obtain⟨A6,c6,rfl⟩:=hT6.shape;have hb6:=hT6.bel;obtain⟨g,rfl,hg,_,hf,⟨y1,hy1⟩,⟨y2,hy2⟩,hR7⟩:=hT6.setAt (j:=j) (x:=(tx l,l')) HJ.out HSK.out HSV.out;have hset:=hR7.set HT.out HXl.out;have p0:=(hb6.cell (p:=⟨pb,0,none⟩) HK.out.2.2).trans HK.out.1;have p1:=(hb6.cell (p:=⟨pb,1,none⟩) HK.out.2.2).trans HK.out.2.1;have f0:=hf (j*2);have f1:(w6.setCell ⟨g,j*2,none⟩ (.slice KA KN KC)).frozen? ⟨g,j*2+1,none⟩=false:=by simpa using hf (j*2+1)
        have ft:=(hR7.bel.frozen (p:=⟨t,0,none⟩) HC.out.2.1).trans HFZ.out;have t0:=(hR7.bel.cell (p:=⟨t,0,none⟩) HC.out.2.1).trans HC.out.1;have HEND:=hid hset;have HR6:=hid hr6;have hj6:(j:Int)<(L.length:Int):=by have:=HJ.out;omega
        have tok1:=True.intro;clear hset hr6 hR7 hT6 hf hb6 hg
        go_wp2_with (at_builtin;have _t:=tok1;clear tok1;refine Lib.wpList_append_run _ rfl _ _ _ _ rfl _ _ rfl rfl _ _ HR6.out ?_)
        (try simp only[Exit.inBlock,Exit.then])
        refine bodyPost_ret (results_none rfl _ _ _) rfl ?_;exact⟨rfl,by rw[HREP.out,<-HC.out.2.2];exact HEND.out.1,ZcQ HB03.out (by rw[<-HC.out.2.2];exact HEND.out.2)⟩
      · have hq2:(x.1 == tx l)=false:=by simpa using hxe
        have hgt:tx l<x.1:=by
         rcases tlt_tri x.1 (tx l)with a|a|a
         · exact absurd a hlx
         · exact absurd a hxe
         · exact a
        have HSET:=hid (Zk1 (v:=l') (x:=tx l) (j:=j) (by rw[HC.out.2.2];exact hj) HNO.out (fun y hy=>by rw[HX0.out]at hy;cases hy;exact hgt));obtain⟨A2,m2,k2,HA2,hm2,hsb⟩:∃A2 m2 k2,Hid ((if TC=j then(some (⟨b,off,none⟩:Addr))else Option.map (fun a:Addr=>a.add (j*2)) (some (⟨b,off,none⟩:Addr)))=A2/\N-j=m2/\TC-j=k2)/\m2<=2147483647/\SPs w3 X A2 m2 k2 (L.drop j):=⟨_,_,_,hid ⟨rfl,rfl,rfl⟩,by omega,HS.out.back_any (j:=j) hj⟩
        have hsf:=HS.out.front (j:=j) hj;have HIA:=fun(wd:World) (hb:RowKit.Below w3.heap.size w3 wd)=>ZrE (x:=(tx l,l')) hb HT.out HXl.out hsf hsb HSK.out HSV.out (by omega) hm2
        have HIB:=fun(wd:World) (hb:RowKit.Below w3.heap.size w3 wd)=>ZrF (x:=(tx l,l')) hb HT.out HXl.out hsf hsb HSK.out HSV.out (by omega) hm2
        have HSX:=hid (fun(W:World) (hb:RowKit.Below w3.heap.size w3 W)=>ZZg ((hb.cell (p:=⟨t,0,none⟩) HC.out.2.1).trans HC.out.1) (ZZg ((hb.cell (p:=⟨pb,0,none⟩) HK.out.2.2).trans HK.out.1) ((hb.cell (p:=⟨pb,1,none⟩) HK.out.2.2).trans HK.out.2.1)))
        replace HIA:=hid HIA
        replace HIB:=hid HIB
        clear hsb hsf hm2;clear hx z1 hb hno hp c1 c2 hxe hlx hgt;go_wp2_with fail
        go_quiet (fail)
        revert nq
        intro nq1;go_wp2_with fail
        go_quiet (fail)
        go_wp2_with fail;obtain⟨wd,hwd⟩:∃wd,wd=(wr.drewN nq1).drewN nq:=⟨_,rfl⟩
        have HBD:=hid (show RowKit.Below w3.heap.size w3 wd by rw[hwd];exact ZY (ZY HB.out _) _);rw[<-hwd];clear hwd
        replace HIA:=hid (HIA.out wd HBD.out)
        replace HIB:=hid (HIB.out wd HBD.out)
        have hNc:N<=TC:=HS.out.1;have hk0:(0:Int)<=(j:Int):=by omega
        have hkc:(j:Int)<=(TC:Int):=by omega
        have hkn:(j:Int)<=(N:Int):=by omega
        have x1:wd.drew.cell? ⟨t,0,none⟩=some (.slice (some ⟨b,off,none⟩) N TC)/\wd.drew.cell? ⟨pb,0,none⟩=some (.slice KA KN KC)/\wd.drew.cell? ⟨pb,1,none⟩=some (.slice VA VN VC):=HSX.out _ HBD.out.drew;refine wp_region_any (by rfl) ?_;change wpAny _ _ _ _ _ _ _ wd.drew;refine Zfj (S:=fun wz=>wz.cell? ⟨t,0,none⟩=some (.slice (some ⟨b,off,none⟩) N TC)/\wz.cell? ⟨pb,0,none⟩=some (.slice KA KN KC)/\wz.cell? ⟨pb,1,none⟩=some (.slice VA VN VC)) (z:=20) _ _ _ _ ?_;refine Zl (i:=0) (oi:={dst:=some 71,op:=_,type:=_,pos:=_,after:=_,guard:=_}) (v:=.pointer (some ⟨t,0,none⟩)) rfl (by decide) (by kernel_rfl) (by kernel_rfl) (by kernel_rfl) (by kernel_rfl) (fun _ _ _ h=>h) (Or.inl ⟨by rfl,fun wz hS=>?_⟩) x1 ?_
        · obtain⟨y1,y2,y3⟩:=hS
          go_simp
        try simp only[Act.put,List.setIfInBounds_toArray,List.set_cons_zero,List.set_cons_succ]
        refine Zl (i:=1) (oi:={dst:=some 72,op:=_,type:=_,pos:=_,after:=_,guard:=_}) (v:=.pointer (some ⟨t,0,none⟩)) rfl (by decide) (by kernel_rfl) (by kernel_rfl) (by kernel_rfl) (by kernel_rfl) (fun _ _ _ h=>h) (Or.inl ⟨by rfl,fun wz hS=>?_⟩) x1 ?_
        · obtain⟨y1,y2,y3⟩:=hS
          go_simp
        try simp only[Act.put,List.setIfInBounds_toArray,List.set_cons_zero,List.set_cons_succ]
        refine Zl (i:=2) (oi:={dst:=some 73,op:=_,type:=_,pos:=_,after:=_,guard:=_}) (v:=.pointer (some ⟨t,0,none⟩)) rfl (by decide) (by kernel_rfl) (by kernel_rfl) (by kernel_rfl) (by kernel_rfl) (fun _ _ _ h=>h) (Or.inl ⟨by rfl,fun wz hS=>?_⟩) x1 ?_
        · obtain⟨y1,y2,y3⟩:=hS
          go_simp
        try simp only[Act.put,List.setIfInBounds_toArray,List.set_cons_zero,List.set_cons_succ]
        refine Zl (i:=3) (oi:={dst:=some 74,op:=_,type:=_,pos:=_,after:=_,guard:=_}) (v:=.pointer (some ⟨t,0,none⟩)) rfl (by decide) (by kernel_rfl) (by kernel_rfl) (by kernel_rfl) (by kernel_rfl) (fun _ _ _ h=>h) (Or.inl ⟨by rfl,fun wz hS=>?_⟩) x1 ?_
        · obtain⟨y1,y2,y3⟩:=hS
          go_simp
        try simp only[Act.put,List.setIfInBounds_toArray,List.set_cons_zero,List.set_cons_succ]
        refine Zl (i:=4) (oi:={dst:=some 75,op:=_,type:=_,pos:=_,after:=_,guard:=_}) (v:=.slice (some ⟨b,off,none⟩) N TC) rfl (by decide) (by kernel_rfl) (by kernel_rfl) (by kernel_rfl) (by kernel_rfl) (fun _ _ _ h=>h) (Or.inl ⟨by rfl,fun wz hS=>?_⟩) x1 ?_
        · obtain⟨y1,y2,y3⟩:=hS
          go_simp
        try simp only[Act.put,List.setIfInBounds_toArray,List.set_cons_zero,List.set_cons_succ]
        refine Zl (i:=5) (oi:={dst:=some 76,op:=_,type:=_,pos:=_,after:=_,guard:=_}) (v:=.int .i64 ((j:Nat):Int)) rfl (by decide) (by kernel_rfl) (by kernel_rfl) (by kernel_rfl) (by kernel_rfl) (fun _ _ _ h=>h) (Or.inl ⟨by rfl,fun wz hS=>?_⟩) x1 ?_
        · obtain⟨y1,y2,y3⟩:=hS
          go_simp
        try simp only[Act.put,List.setIfInBounds_toArray,List.set_cons_zero,List.set_cons_succ]
        refine Zl (i:=6) (oi:={dst:=some 77,op:=_,type:=_,pos:=_,after:=_,guard:=_}) (v:=.slice (some ⟨b,off,none⟩) j TC) rfl (by decide) (by kernel_rfl) (by kernel_rfl) (by kernel_rfl) (by kernel_rfl) (fun _ _ _ h=>h) (Or.inl ⟨by rfl,fun wz hS=>?_⟩) x1 ?_
        · obtain⟨y1,y2,y3⟩:=hS
          go_simp
          all_goals first|omega|simp[Addr.add]
        try simp only[Act.put,List.setIfInBounds_toArray,List.set_cons_zero,List.set_cons_succ]
        refine Zl (i:=8) (oi:={dst:=some 79,op:=_,type:=_,pos:=_,after:=_,guard:=_}) (v:=.agg #[.slice KA KN KC,.slice VA VN VC]) rfl (by decide) (by kernel_rfl) (by kernel_rfl) (by kernel_rfl) (by kernel_rfl) (fun _ _ _ h=>h) (Or.inl ⟨by rfl,fun wz hS=>?_⟩) x1 ?_
        · obtain⟨y1,y2,y3⟩:=hS
          go_simp
        try simp only[Act.put,List.setIfInBounds_toArray,List.set_cons_zero,List.set_cons_succ]
        refine Zl (i:=11) (oi:={dst:=some 82,op:=_,type:=_,pos:=_,after:=_,guard:=_}) (v:=.pointer (some ⟨t,0,none⟩)) rfl (by decide) (by kernel_rfl) (by kernel_rfl) (by kernel_rfl) (by kernel_rfl) (fun _ _ _ h=>h) (Or.inl ⟨by rfl,fun wz hS=>?_⟩) x1 ?_
        · obtain⟨y1,y2,y3⟩:=hS
          go_simp
        try simp only[Act.put,List.setIfInBounds_toArray,List.set_cons_zero,List.set_cons_succ]
        refine Zl (i:=12) (oi:={dst:=some 83,op:=_,type:=_,pos:=_,after:=_,guard:=_}) (v:=.pointer (some ⟨t,0,none⟩)) rfl (by decide) (by kernel_rfl) (by kernel_rfl) (by kernel_rfl) (by kernel_rfl) (fun _ _ _ h=>h) (Or.inl ⟨by rfl,fun wz hS=>?_⟩) x1 ?_
        · obtain⟨y1,y2,y3⟩:=hS
          go_simp
        try simp only[Act.put,List.setIfInBounds_toArray,List.set_cons_zero,List.set_cons_succ]
        refine Zl (i:=13) (oi:={dst:=some 84,op:=_,type:=_,pos:=_,after:=_,guard:=_}) (v:=.pointer (some ⟨t,0,none⟩)) rfl (by decide) (by kernel_rfl) (by kernel_rfl) (by kernel_rfl) (by kernel_rfl) (fun _ _ _ h=>h) (Or.inl ⟨by rfl,fun wz hS=>?_⟩) x1 ?_
        · obtain⟨y1,y2,y3⟩:=hS
          go_simp
        try simp only[Act.put,List.setIfInBounds_toArray,List.set_cons_zero,List.set_cons_succ]
        refine Zl (i:=14) (oi:={dst:=some 85,op:=_,type:=_,pos:=_,after:=_,guard:=_}) (v:=.slice (some ⟨b,off,none⟩) N TC) rfl (by decide) (by kernel_rfl) (by kernel_rfl) (by kernel_rfl) (by kernel_rfl) (fun _ _ _ h=>h) (Or.inl ⟨by rfl,fun wz hS=>?_⟩) x1 ?_
        · obtain⟨y1,y2,y3⟩:=hS
          go_simp
        try simp only[Act.put,List.setIfInBounds_toArray,List.set_cons_zero,List.set_cons_succ]
        refine Zl (i:=15) (oi:={dst:=some 86,op:=_,type:=_,pos:=_,after:=_,guard:=_}) (v:=.int .i64 ((j:Nat):Int)) rfl (by decide) (by kernel_rfl) (by kernel_rfl) (by kernel_rfl) (by kernel_rfl) (fun _ _ _ h=>h) (Or.inl ⟨by rfl,fun wz hS=>?_⟩) x1 ?_
        · obtain⟨y1,y2,y3⟩:=hS
          go_simp
        try simp only[Act.put,List.setIfInBounds_toArray,List.set_cons_zero,List.set_cons_succ]
        refine Zl (i:=16) (oi:={dst:=some 87,op:=_,type:=_,pos:=_,after:=_,guard:=_}) (v:=.slice A2 m2 k2) rfl (by decide) (by kernel_rfl) (by kernel_rfl) (by kernel_rfl) (by kernel_rfl) (fun _ _ _ h=>h) (Or.inl ⟨by rfl,fun wz hS=>?_⟩) x1 ?_
        · obtain⟨y1,y2,y3⟩:=hS;obtain⟨e1,e2,e3⟩:=HA2.out;subst e1 e2 e3
          go_simp
          all_goals first|omega|simp[Addr.add]
        try simp only[Act.put,List.setIfInBounds_toArray,List.set_cons_zero,List.set_cons_succ]
        refine Zhw (j:=7) (k:=9) (o:={dst:=some 78,op:=_,type:=_,pos:=_,after:=_,guard:=none}) (o':={dst:=some 80,op:=_,type:=_,pos:=_,after:=_,guard:=none}) rfl rfl (by kernel_rfl) (by decide) (by decide) ?_ ?_
        · intro K1 hK1;obtain⟨v6,w6,hr6,hb6,hba,hE⟩:=HIA.out;refine Zu (by rfl) (.const (.slice none 0 0)) (.tmp 77) _ _ (by rfl) _ _ (by rfl) (by rfl) hr6 ?_;refine hK1 _ _ (HSX.out _ hb6) ?_;clear hK1 K1 hr6
          try simp only[Act.put,List.setIfInBounds_toArray,List.set_cons_zero,List.set_cons_succ]
          refine Zz (j:=9) (o:={dst:=some 80,op:=_,type:=_,pos:=_,after:=_,guard:=none}) rfl (by kernel_rfl) (by decide) ?_;intro K1 hK1;rw[if_pos (by rfl)]
          go_simp
          refine hK1 _ _ (HSX.out _ hba) ?_;clear hK1 K1;generalize w6.alloc (.cells #[.slice KA KN KC,.slice VA VN VC] 65 (0,0))=W at hba hE ⊢;generalize w6.heap.size=gl at hE ⊢
          try simp only[Act.put,List.setIfInBounds_toArray,List.set_cons_zero,List.set_cons_succ]
          obtain⟨v7,w7,hr7,hb7,A8,n8,c8,w8,hr8,hb8,hf8,ht8,hto8⟩:=hE;refine Zz (j:=10) (o:={dst:=some 81,op:=_,type:=_,pos:=_,after:=_,guard:=none}) rfl (by kernel_rfl) (by decide) ?_;intro K1 hK1;refine Zu (by rfl) (.tmp 78) (.tmp 80) _ _ (by rfl) _ _ (by rfl) (by rfl) hr7 ?_;refine hK1 _ _ (HSX.out _ hb7) ?_;clear hK1 K1 hr7
          try simp only[Act.put,List.setIfInBounds_toArray,List.set_cons_zero,List.set_cons_succ]
          refine Zz (j:=17) (o:={dst:=some 88,op:=_,type:=_,pos:=_,after:=_,guard:=none}) rfl (by kernel_rfl) (by decide) ?_;intro K1 hK1;refine Zu (by rfl) (.tmp 81) (.tmp 87) _ _ (by rfl) _ _ (by rfl) (by rfl) hr8 ?_;have y8:=HSX.out _ hb8;refine hK1 _ _ y8 ?_;clear hK1 K1 hr8
          try simp only[Act.put,List.setIfInBounds_toArray,List.set_cons_zero,List.set_cons_succ]
          refine Zz (j:=18) (o:={dst:=some 89,op:=_,type:=_,pos:=_,after:=_,guard:=_}) rfl (by kernel_rfl) (by decide) ?_;intro K1 hK1;rw[if_pos (by rfl)]
          go_simp
          refine hK1 _ _ y8 ?_;clear hK1 K1
          try simp only[Act.put,List.setIfInBounds_toArray,List.set_cons_zero,List.set_cons_succ]
          refine Zz (j:=19) (o:={dst:=some 90,op:=_,type:=_,pos:=_,after:=_,guard:=_}) rfl (by kernel_rfl) (by decide) ?_;intro K1 hK1;rw[if_pos (by rfl)]
          go_simp
          refine hK1 _ _ y8 ?_;clear hK1 K1
          try simp only[Act.put,List.setIfInBounds_toArray,List.set_cons_zero,List.set_cons_succ]
          obtain⟨y1,y2,y3⟩:=y8;refine Zdb (o:={dst:=none,op:=_,type:=_,pos:=_,after:=_,guard:=_}) rfl (by kernel_rfl) ?_;intro K1 hK1;rw[if_pos (by rfl)]
          go_simp
          refine hK1 _ _ ?_;clear hK1 K1;refine wpAny_done (by kernel_rfl) ?_ _;have HEND:=hid (ZZg ht8 (ZcQ HB03.out hto8));clear ht8 hto8 hf8 y1 y2 y3 x1;go_wp2
          go_end0
          exact⟨rfl,by rw[HSET.out];exact HEND.out.1,HEND.out.2⟩
        · intro K1 hK1;obtain⟨hbd,v6,w6,hr6,hb6,hE⟩:=HIB.out;rw[if_pos (by rfl)]
          go_simp
          refine hK1 _ _ (HSX.out _ hbd) ?_;clear hK1 K1
          try simp only[Act.put,List.setIfInBounds_toArray,List.set_cons_zero,List.set_cons_succ]
          refine Zz (j:=7) (o:={dst:=some 78,op:=_,type:=_,pos:=_,after:=_,guard:=none}) rfl (by kernel_rfl) (by decide) ?_;intro K1 hK1;refine Zu (by rfl) (.const (.slice none 0 0)) (.tmp 77) _ _ (by rfl) _ _ (by rfl) (by rfl) hr6 ?_;refine hK1 _ _ (HSX.out _ hb6) ?_;rw[Array.setIfInBounds_comm _ _ (show(9:Nat)≠7 by decide)];clear hK1 K1 hr6 hbd;generalize w6=W at hE ⊢;generalize wd.heap.size=gl at hE ⊢
          try simp only[Act.put,List.setIfInBounds_toArray,List.set_cons_zero,List.set_cons_succ]
          obtain⟨v7,w7,hr7,hb7,A8,n8,c8,w8,hr8,hb8,hf8,ht8,hto8⟩:=hE;refine Zz (j:=10) (o:={dst:=some 81,op:=_,type:=_,pos:=_,after:=_,guard:=none}) rfl (by kernel_rfl) (by decide) ?_;intro K1 hK1;refine Zu (by rfl) (.tmp 78) (.tmp 80) _ _ (by rfl) _ _ (by rfl) (by rfl) hr7 ?_;refine hK1 _ _ (HSX.out _ hb7) ?_;clear hK1 K1 hr7
          try simp only[Act.put,List.setIfInBounds_toArray,List.set_cons_zero,List.set_cons_succ]
          refine Zz (j:=17) (o:={dst:=some 88,op:=_,type:=_,pos:=_,after:=_,guard:=none}) rfl (by kernel_rfl) (by decide) ?_;intro K1 hK1;refine Zu (by rfl) (.tmp 81) (.tmp 87) _ _ (by rfl) _ _ (by rfl) (by rfl) hr8 ?_;have y8:=HSX.out _ hb8;refine hK1 _ _ y8 ?_;clear hK1 K1 hr8
          try simp only[Act.put,List.setIfInBounds_toArray,List.set_cons_zero,List.set_cons_succ]
          refine Zz (j:=18) (o:={dst:=some 89,op:=_,type:=_,pos:=_,after:=_,guard:=_}) rfl (by kernel_rfl) (by decide) ?_;intro K1 hK1;rw[if_pos (by rfl)]
          go_simp
          refine hK1 _ _ y8 ?_;clear hK1 K1
          try simp only[Act.put,List.setIfInBounds_toArray,List.set_cons_zero,List.set_cons_succ]
          refine Zz (j:=19) (o:={dst:=some 90,op:=_,type:=_,pos:=_,after:=_,guard:=_}) rfl (by kernel_rfl) (by decide) ?_;intro K1 hK1;rw[if_pos (by rfl)]
          go_simp
          refine hK1 _ _ y8 ?_;clear hK1 K1
          try simp only[Act.put,List.setIfInBounds_toArray,List.set_cons_zero,List.set_cons_succ]
          obtain⟨y1,y2,y3⟩:=y8;refine Zdb (o:={dst:=none,op:=_,type:=_,pos:=_,after:=_,guard:=_}) rfl (by kernel_rfl) ?_;intro K1 hK1;rw[if_pos (by rfl)]
          go_simp
          refine hK1 _ _ ?_;clear hK1 K1;refine wpAny_done (by kernel_rfl) ?_ _;have HEND:=hid (ZZg ht8 (ZcQ HB03.out hto8));clear ht8 hto8 hf8 y1 y2 y3 x1;go_wp2
          go_end0
          exact⟨rfl,by rw[HSET.out];exact HEND.out.1,HEND.out.2⟩
  · obtain rfl:j=N:=by omega
    have hjn:¬(j:Int)<(j:Int):=by omega
    have HNO:=hid hno;have HB:=hid hb;have HSET:=hid (Zk1 (v:=l') (x:=tx l) (j:=j) (by rw[HC.out.2.2];exact ZZe _) HNO.out (fun y hy=>by have:=(ZZb.1 hy).1;have h9:=HC.out.2.2;omega));obtain⟨A2,m2,k2,HA2,hm2,hsb⟩:∃A2 m2 k2,Hid ((if TC=j then TA else Option.map (fun a:Addr=>a.add (j*2)) TA)=A2/\j-j=m2/\TC-j=k2)/\m2<=2147483647/\SPs w3 X A2 m2 k2 (L.drop j):=⟨_,_,_,hid ⟨rfl,rfl,rfl⟩,by omega,HS.out.back_any (j:=j) hj⟩
    have hsf:=HS.out.front (j:=j) hj;have HIA:=fun(wd:World) (hb:RowKit.Below w3.heap.size w3 wd)=>ZrE (x:=(tx l,l')) hb HT.out HXl.out hsf hsb HSK.out HSV.out (by omega) hm2
    have HIB:=fun(wd:World) (hb:RowKit.Below w3.heap.size w3 wd)=>ZrF (x:=(tx l,l')) hb HT.out HXl.out hsf hsb HSK.out HSV.out (by omega) hm2
    have HSX:=hid (fun(W:World) (hb:RowKit.Below w3.heap.size w3 W)=>ZZg ((hb.cell (p:=⟨t,0,none⟩) HC.out.2.1).trans HC.out.1) (ZZg ((hb.cell (p:=⟨pb,0,none⟩) HK.out.2.2).trans HK.out.1) ((hb.cell (p:=⟨pb,1,none⟩) HK.out.2.2).trans HK.out.2.1)))
    replace HIA:=hid HIA
    replace HIB:=hid HIB
    clear hsb hsf hm2;clear hno hb;go_wp2_with fail
    go_quiet (fail)
    revert nq
    intro nq1;go_wp2_with fail
    go_quiet (fail)
    go_wp2_with fail;obtain⟨wd,hwd⟩:∃wd,wd=(wr.drewN nq1).drewN nq:=⟨_,rfl⟩
    have HBD:=hid (show RowKit.Below w3.heap.size w3 wd by rw[hwd];exact ZY (ZY HB.out _) _);rw[<-hwd];clear hwd
    replace HIA:=hid (HIA.out wd HBD.out)
    replace HIB:=hid (HIB.out wd HBD.out)
    have hNc:j<=TC:=HS.out.1;have hk0:(0:Int)<=(j:Int):=by omega
    have hkc:(j:Int)<=(TC:Int):=by omega
    have hkn:(j:Int)<=(j:Int):=by omega
    have x1:wd.drew.cell? ⟨t,0,none⟩=some (.slice TA j TC)/\wd.drew.cell? ⟨pb,0,none⟩=some (.slice KA KN KC)/\wd.drew.cell? ⟨pb,1,none⟩=some (.slice VA VN VC):=HSX.out _ HBD.out.drew;refine wp_region_any (by rfl) ?_;change wpAny _ _ _ _ _ _ _ wd.drew;refine Zfj (S:=fun wz=>wz.cell? ⟨t,0,none⟩=some (.slice TA j TC)/\wz.cell? ⟨pb,0,none⟩=some (.slice KA KN KC)/\wz.cell? ⟨pb,1,none⟩=some (.slice VA VN VC)) (z:=20) _ _ _ _ ?_;refine Zl (i:=0) (oi:={dst:=some 71,op:=_,type:=_,pos:=_,after:=_,guard:=_}) (v:=.pointer (some ⟨t,0,none⟩)) rfl (by decide) (by kernel_rfl) (by kernel_rfl) (by kernel_rfl) (by kernel_rfl) (fun _ _ _ h=>h) (Or.inl ⟨by rfl,fun wz hS=>?_⟩) x1 ?_
    · obtain⟨y1,y2,y3⟩:=hS
      go_simp
    try simp only[Act.put,List.setIfInBounds_toArray,List.set_cons_zero,List.set_cons_succ]
    refine Zl (i:=1) (oi:={dst:=some 72,op:=_,type:=_,pos:=_,after:=_,guard:=_}) (v:=.pointer (some ⟨t,0,none⟩)) rfl (by decide) (by kernel_rfl) (by kernel_rfl) (by kernel_rfl) (by kernel_rfl) (fun _ _ _ h=>h) (Or.inl ⟨by rfl,fun wz hS=>?_⟩) x1 ?_
    · obtain⟨y1,y2,y3⟩:=hS
      go_simp
    try simp only[Act.put,List.setIfInBounds_toArray,List.set_cons_zero,List.set_cons_succ]
    refine Zl (i:=2) (oi:={dst:=some 73,op:=_,type:=_,pos:=_,after:=_,guard:=_}) (v:=.pointer (some ⟨t,0,none⟩)) rfl (by decide) (by kernel_rfl) (by kernel_rfl) (by kernel_rfl) (by kernel_rfl) (fun _ _ _ h=>h) (Or.inl ⟨by rfl,fun wz hS=>?_⟩) x1 ?_
    · obtain⟨y1,y2,y3⟩:=hS
      go_simp
    try simp only[Act.put,List.setIfInBounds_toArray,List.set_cons_zero,List.set_cons_succ]
    refine Zl (i:=3) (oi:={dst:=some 74,op:=_,type:=_,pos:=_,after:=_,guard:=_}) (v:=.pointer (some ⟨t,0,none⟩)) rfl (by decide) (by kernel_rfl) (by kernel_rfl) (by kernel_rfl) (by kernel_rfl) (fun _ _ _ h=>h) (Or.inl ⟨by rfl,fun wz hS=>?_⟩) x1 ?_
    · obtain⟨y1,y2,y3⟩:=hS
      go_simp
    try simp only[Act.put,List.setIfInBounds_toArray,List.set_cons_zero,List.set_cons_succ]
    refine Zl (i:=4) (oi:={dst:=some 75,op:=_,type:=_,pos:=_,after:=_,guard:=_}) (v:=.slice TA j TC) rfl (by decide) (by kernel_rfl) (by kernel_rfl) (by kernel_rfl) (by kernel_rfl) (fun _ _ _ h=>h) (Or.inl ⟨by rfl,fun wz hS=>?_⟩) x1 ?_
    · obtain⟨y1,y2,y3⟩:=hS
      go_simp
    try simp only[Act.put,List.setIfInBounds_toArray,List.set_cons_zero,List.set_cons_succ]
    refine Zl (i:=5) (oi:={dst:=some 76,op:=_,type:=_,pos:=_,after:=_,guard:=_}) (v:=.int .i64 ((j:Nat):Int)) rfl (by decide) (by kernel_rfl) (by kernel_rfl) (by kernel_rfl) (by kernel_rfl) (fun _ _ _ h=>h) (Or.inl ⟨by rfl,fun wz hS=>?_⟩) x1 ?_
    · obtain⟨y1,y2,y3⟩:=hS
      go_simp
    try simp only[Act.put,List.setIfInBounds_toArray,List.set_cons_zero,List.set_cons_succ]
    refine Zl (i:=6) (oi:={dst:=some 77,op:=_,type:=_,pos:=_,after:=_,guard:=_}) (v:=.slice TA j TC) rfl (by decide) (by kernel_rfl) (by kernel_rfl) (by kernel_rfl) (by kernel_rfl) (fun _ _ _ h=>h) (Or.inl ⟨by rfl,fun wz hS=>?_⟩) x1 ?_
    · obtain⟨y1,y2,y3⟩:=hS
      go_simp
      all_goals first|omega|simp[Addr.add]
    try simp only[Act.put,List.setIfInBounds_toArray,List.set_cons_zero,List.set_cons_succ]
    refine Zl (i:=8) (oi:={dst:=some 79,op:=_,type:=_,pos:=_,after:=_,guard:=_}) (v:=.agg #[.slice KA KN KC,.slice VA VN VC]) rfl (by decide) (by kernel_rfl) (by kernel_rfl) (by kernel_rfl) (by kernel_rfl) (fun _ _ _ h=>h) (Or.inl ⟨by rfl,fun wz hS=>?_⟩) x1 ?_
    · obtain⟨y1,y2,y3⟩:=hS
      go_simp
    try simp only[Act.put,List.setIfInBounds_toArray,List.set_cons_zero,List.set_cons_succ]
    refine Zl (i:=11) (oi:={dst:=some 82,op:=_,type:=_,pos:=_,after:=_,guard:=_}) (v:=.pointer (some ⟨t,0,none⟩)) rfl (by decide) (by kernel_rfl) (by kernel_rfl) (by kernel_rfl) (by kernel_rfl) (fun _ _ _ h=>h) (Or.inl ⟨by rfl,fun wz hS=>?_⟩) x1 ?_
    · obtain⟨y1,y2,y3⟩:=hS
      go_simp
    try simp only[Act.put,List.setIfInBounds_toArray,List.set_cons_zero,List.set_cons_succ]
    refine Zl (i:=12) (oi:={dst:=some 83,op:=_,type:=_,pos:=_,after:=_,guard:=_}) (v:=.pointer (some ⟨t,0,none⟩)) rfl (by decide) (by kernel_rfl) (by kernel_rfl) (by kernel_rfl) (by kernel_rfl) (fun _ _ _ h=>h) (Or.inl ⟨by rfl,fun wz hS=>?_⟩) x1 ?_
    · obtain⟨y1,y2,y3⟩:=hS
      go_simp
    try simp only[Act.put,List.setIfInBounds_toArray,List.set_cons_zero,List.set_cons_succ]
    refine Zl (i:=13) (oi:={dst:=some 84,op:=_,type:=_,pos:=_,after:=_,guard:=_}) (v:=.pointer (some ⟨t,0,none⟩)) rfl (by decide) (by kernel_rfl) (by kernel_rfl) (by kernel_rfl) (by kernel_rfl) (fun _ _ _ h=>h) (Or.inl ⟨by rfl,fun wz hS=>?_⟩) x1 ?_
    · obtain⟨y1,y2,y3⟩:=hS
      go_simp
    try simp only[Act.put,List.setIfInBounds_toArray,List.set_cons_zero,List.set_cons_succ]
    refine Zl (i:=14) (oi:={dst:=some 85,op:=_,type:=_,pos:=_,after:=_,guard:=_}) (v:=.slice TA j TC) rfl (by decide) (by kernel_rfl) (by kernel_rfl) (by kernel_rfl) (by kernel_rfl) (fun _ _ _ h=>h) (Or.inl ⟨by rfl,fun wz hS=>?_⟩) x1 ?_
    · obtain⟨y1,y2,y3⟩:=hS
      go_simp
    try simp only[Act.put,List.setIfInBounds_toArray,List.set_cons_zero,List.set_cons_succ]
    refine Zl (i:=15) (oi:={dst:=some 86,op:=_,type:=_,pos:=_,after:=_,guard:=_}) (v:=.int .i64 ((j:Nat):Int)) rfl (by decide) (by kernel_rfl) (by kernel_rfl) (by kernel_rfl) (by kernel_rfl) (fun _ _ _ h=>h) (Or.inl ⟨by rfl,fun wz hS=>?_⟩) x1 ?_
    · obtain⟨y1,y2,y3⟩:=hS
      go_simp
    try simp only[Act.put,List.setIfInBounds_toArray,List.set_cons_zero,List.set_cons_succ]
    refine Zl (i:=16) (oi:={dst:=some 87,op:=_,type:=_,pos:=_,after:=_,guard:=_}) (v:=.slice A2 m2 k2) rfl (by decide) (by kernel_rfl) (by kernel_rfl) (by kernel_rfl) (by kernel_rfl) (fun _ _ _ h=>h) (Or.inl ⟨by rfl,fun wz hS=>?_⟩) x1 ?_
    · obtain⟨y1,y2,y3⟩:=hS;obtain⟨e1,e2,e3⟩:=HA2.out;subst e1 e2 e3
      go_simp
      all_goals first|omega|simp[Addr.add]
    try simp only[Act.put,List.setIfInBounds_toArray,List.set_cons_zero,List.set_cons_succ]
    refine Zhw (j:=7) (k:=9) (o:={dst:=some 78,op:=_,type:=_,pos:=_,after:=_,guard:=none}) (o':={dst:=some 80,op:=_,type:=_,pos:=_,after:=_,guard:=none}) rfl rfl (by kernel_rfl) (by decide) (by decide) ?_ ?_
    · intro K1 hK1;obtain⟨v6,w6,hr6,hb6,hba,hE⟩:=HIA.out;refine Zu (by rfl) (.const (.slice none 0 0)) (.tmp 77) _ _ (by rfl) _ _ (by rfl) (by rfl) hr6 ?_;refine hK1 _ _ (HSX.out _ hb6) ?_;clear hK1 K1 hr6
      try simp only[Act.put,List.setIfInBounds_toArray,List.set_cons_zero,List.set_cons_succ]
      refine Zz (j:=9) (o:={dst:=some 80,op:=_,type:=_,pos:=_,after:=_,guard:=none}) rfl (by kernel_rfl) (by decide) ?_;intro K1 hK1;rw[if_pos (by rfl)]
      go_simp
      refine hK1 _ _ (HSX.out _ hba) ?_;clear hK1 K1;generalize w6.alloc (.cells #[.slice KA KN KC,.slice VA VN VC] 65 (0,0))=W at hba hE ⊢;generalize w6.heap.size=gl at hE ⊢
      try simp only[Act.put,List.setIfInBounds_toArray,List.set_cons_zero,List.set_cons_succ]
      obtain⟨v7,w7,hr7,hb7,A8,n8,c8,w8,hr8,hb8,hf8,ht8,hto8⟩:=hE;refine Zz (j:=10) (o:={dst:=some 81,op:=_,type:=_,pos:=_,after:=_,guard:=none}) rfl (by kernel_rfl) (by decide) ?_;intro K1 hK1;refine Zu (by rfl) (.tmp 78) (.tmp 80) _ _ (by rfl) _ _ (by rfl) (by rfl) hr7 ?_;refine hK1 _ _ (HSX.out _ hb7) ?_;clear hK1 K1 hr7
      try simp only[Act.put,List.setIfInBounds_toArray,List.set_cons_zero,List.set_cons_succ]
      refine Zz (j:=17) (o:={dst:=some 88,op:=_,type:=_,pos:=_,after:=_,guard:=none}) rfl (by kernel_rfl) (by decide) ?_;intro K1 hK1;refine Zu (by rfl) (.tmp 81) (.tmp 87) _ _ (by rfl) _ _ (by rfl) (by rfl) hr8 ?_;have y8:=HSX.out _ hb8;refine hK1 _ _ y8 ?_;clear hK1 K1 hr8
      try simp only[Act.put,List.setIfInBounds_toArray,List.set_cons_zero,List.set_cons_succ]
      refine Zz (j:=18) (o:={dst:=some 89,op:=_,type:=_,pos:=_,after:=_,guard:=_}) rfl (by kernel_rfl) (by decide) ?_;intro K1 hK1;rw[if_pos (by rfl)]
      go_simp
      refine hK1 _ _ y8 ?_;clear hK1 K1
      try simp only[Act.put,List.setIfInBounds_toArray,List.set_cons_zero,List.set_cons_succ]
      refine Zz (j:=19) (o:={dst:=some 90,op:=_,type:=_,pos:=_,after:=_,guard:=_}) rfl (by kernel_rfl) (by decide) ?_;intro K1 hK1;rw[if_pos (by rfl)]
      go_simp
      refine hK1 _ _ y8 ?_;clear hK1 K1
      try simp only[Act.put,List.setIfInBounds_toArray,List.set_cons_zero,List.set_cons_succ]
      obtain⟨y1,y2,y3⟩:=y8;refine Zdb (o:={dst:=none,op:=_,type:=_,pos:=_,after:=_,guard:=_}) rfl (by kernel_rfl) ?_;intro K1 hK1;rw[if_pos (by rfl)]
      go_simp
      refine hK1 _ _ ?_;clear hK1 K1;refine wpAny_done (by kernel_rfl) ?_ _;have HEND:=hid (ZZg ht8 (ZcQ HB03.out hto8));clear ht8 hto8 hf8 y1 y2 y3 x1;go_wp2
      go_end0
      exact⟨rfl,by rw[HSET.out];exact HEND.out.1,HEND.out.2⟩
    · intro K1 hK1;obtain⟨hbd,v6,w6,hr6,hb6,hE⟩:=HIB.out;rw[if_pos (by rfl)]
      go_simp
      refine hK1 _ _ (HSX.out _ hbd) ?_;clear hK1 K1
      try simp only[Act.put,List.setIfInBounds_toArray,List.set_cons_zero,List.set_cons_succ]
      refine Zz (j:=7) (o:={dst:=some 78,op:=_,type:=_,pos:=_,after:=_,guard:=none}) rfl (by kernel_rfl) (by decide) ?_;intro K1 hK1;refine Zu (by rfl) (.const (.slice none 0 0)) (.tmp 77) _ _ (by rfl) _ _ (by rfl) (by rfl) hr6 ?_;refine hK1 _ _ (HSX.out _ hb6) ?_;rw[Array.setIfInBounds_comm _ _ (show(9:Nat)≠7 by decide)];clear hK1 K1 hr6 hbd;generalize w6=W at hE ⊢;generalize wd.heap.size=gl at hE ⊢
      try simp only[Act.put,List.setIfInBounds_toArray,List.set_cons_zero,List.set_cons_succ]
      obtain⟨v7,w7,hr7,hb7,A8,n8,c8,w8,hr8,hb8,hf8,ht8,hto8⟩:=hE;refine Zz (j:=10) (o:={dst:=some 81,op:=_,type:=_,pos:=_,after:=_,guard:=none}) rfl (by kernel_rfl) (by decide) ?_;intro K1 hK1;refine Zu (by rfl) (.tmp 78) (.tmp 80) _ _ (by rfl) _ _ (by rfl) (by rfl) hr7 ?_;refine hK1 _ _ (HSX.out _ hb7) ?_;clear hK1 K1 hr7
      try simp only[Act.put,List.setIfInBounds_toArray,List.set_cons_zero,List.set_cons_succ]
      refine Zz (j:=17) (o:={dst:=some 88,op:=_,type:=_,pos:=_,after:=_,guard:=none}) rfl (by kernel_rfl) (by decide) ?_;intro K1 hK1;refine Zu (by rfl) (.tmp 81) (.tmp 87) _ _ (by rfl) _ _ (by rfl) (by rfl) hr8 ?_;have y8:=HSX.out _ hb8;refine hK1 _ _ y8 ?_;clear hK1 K1 hr8
      try simp only[Act.put,List.setIfInBounds_toArray,List.set_cons_zero,List.set_cons_succ]
      refine Zz (j:=18) (o:={dst:=some 89,op:=_,type:=_,pos:=_,after:=_,guard:=_}) rfl (by kernel_rfl) (by decide) ?_;intro K1 hK1;rw[if_pos (by rfl)]
      go_simp
      refine hK1 _ _ y8 ?_;clear hK1 K1
      try simp only[Act.put,List.setIfInBounds_toArray,List.set_cons_zero,List.set_cons_succ]
      refine Zz (j:=19) (o:={dst:=some 90,op:=_,type:=_,pos:=_,after:=_,guard:=_}) rfl (by kernel_rfl) (by decide) ?_;intro K1 hK1;rw[if_pos (by rfl)]
      go_simp
      refine hK1 _ _ y8 ?_;clear hK1 K1
      try simp only[Act.put,List.setIfInBounds_toArray,List.set_cons_zero,List.set_cons_succ]
      obtain⟨y1,y2,y3⟩:=y8;refine Zdb (o:={dst:=none,op:=_,type:=_,pos:=_,after:=_,guard:=_}) rfl (by kernel_rfl) ?_;intro K1 hK1;rw[if_pos (by rfl)]
      go_simp
      refine hK1 _ _ ?_;clear hK1 K1;refine wpAny_done (by kernel_rfl) ?_ _;have HEND:=hid (ZZg ht8 (ZcQ HB03.out hto8));clear ht8 hto8 hf8 y1 y2 y3 x1;go_wp2
      go_end0
      exact⟨rfl,by rw[HSET.out];exact HEND.out.1,HEND.out.2⟩
end
end Go.Proofs.YtlmkdmdbpopnhaaGreatDoor
namespace Go.Proofs.YtlmkdmdbpopnhaaGreatDoor
open Go.RowKit
structure Z9(D:World->(Nat->Prop)->Addr->DS->Prop)(B:Nat)(w0 w:World)(F O:Nat->Prop)(p:Addr)(S:DS)(q:Nat)(seq:Int)(r b st x y:Nat)(L:List (Int×List Int))(T V U:TL)(cap:Nat):Prop where
 top:Top D w F O p S q seq r b st L
 own:∀k,O k->B<=k
 bel:RowKit.Below B w0 w
 now:ZO S L T cap
 safe:ZO S [] U cap
 kp:∃f,Kp S f seq
 tab:Zbm w (fun k=>O k∨k=x∨k=y) x V
 tabs:Zbm w (fun k=>O k∨k=x∨k=y) y U
 apart:¬O x/\¬O y/\x≠y/\B<=x/\B<=y
 glob:1<B
section
variable{D:World->(Nat->Prop)->Addr->DS->Prop}{w0 w w':World}{F O:Nat->Prop}{p:Addr}{S:DS}{q r b st x y B:Nat}{seq:Int}{L L':List (Int×List Int)}{T T' V U:TL}{cap:Nat}
theorem Z9.xlt(h:Z9 D B w0 w F O p S q seq r b st x y L T V U cap):∀k,(O k∨k=x∨k=y)->k<w.heap.size:=fun k hk=>by
 rcases hk with a|rfl|rfl
 · exact h.top.at_.pg.lt k a
 · exact h.tab.lt
 · exact h.tabs.lt
theorem Z9.base(h:Z9 D B w0 w F O p S q seq r b st x y L T V U cap):B<=w.heap.size:=ZZf h.apart.2.2.2.1 (Nat.le_of_lt h.tab.lt)
theorem Z9.below(api:Zb D)(h:Z9 D B w0 w F O p S q seq r b st x y L T V U cap)(hb:RowKit.Below w.heap.size w w'):Z9 D B w0 w' F O p S q seq r b st x y L T V U cap:=
 ⟨h.top.below api hb,h.own,h.bel.trans (hb.mono h.base),h.now,h.safe,h.kp,h.tab.below hb,h.tabs.below hb,h.apart,h.glob⟩
theorem Z9.aft(h:Z9 D B w0 w F O p S q seq r b st x y L T V U cap)(hT:ZO S L' T' cap)(ha:Zad D w F O p S q seq r b st L' w'):∃O',Z9 D B w0 w' F O' p S q seq r b st x y L' T' V U cap/\Zf O w w'/\∀k,O' k->O k∨w.heap.size<=k:=by
 obtain⟨O',h1,h2,h3⟩:=ha;obtain⟨a1,a2,a3,a4,a5⟩:=h.apart;have hx:=h.tab.lt;have hy:=h.tabs.lt
 have hX:∀k,k<w.heap.size->¬(O k∨k=x∨k=y)->¬(O' k∨k=x∨k=y):=fun k hk hn hn'=>by
  rcases hn' with a|a
  · rcases h3 k a with c|c
    · exact hn (.inl c)
    · omega
  · exact hn (.inr a)
 have hkeep:∀{t:Nat} {Z:TL},(t=x∨t=y)->Zbm w (fun k=>O k∨k=x∨k=y) t Z->Zbm w' (fun k=>O' k∨k=x∨k=y) t Z:=fun {t Z} ht hz=>by
  obtain⟨A,n,c,c1,c2,c3⟩:=hz;have hto:¬O t:=by rcases ht with rfl|rfl;exact a1;exact a2
  have htl:t<w.heap.size:=by rcases ht with rfl|rfl;exact hx;exact hy
  exact⟨A,n,c,(h2.block t htl hto).trans c1,.inr ht,c3.keep h2.size hX (fun k hk hn=>h2.block k hk (fun e=>hn (.inl e)))⟩
 refine⟨O',⟨h1,fun k hk=>?_,h.bel.trans (Zf.below h2 h.own h.base),hT,h.safe,h.kp,hkeep (.inl rfl) h.tab,hkeep (.inr rfl) h.tabs,⟨?_,?_,a3,a4,a5⟩,h.glob⟩,h2,h3⟩
 · rcases h3 k hk with c|c
   · exact h.own k c
   · exact ZZf h.base c
 · intro hk;rcases h3 x hk with c|c
   · exact a1 c
   · omega
 · intro hk;rcases h3 y hk with c|c
   · exact a2 c
   · omega
theorem Z9.table(api:Zb D)(h:Z9 D B w0 w F O p S q seq r b st x y L T V U cap){V':TL}(ht:Zbm w' (fun k=>O k∨k=x∨k=y) x V')(hto:Zf (fun k=>k=x) w w'):Z9 D B w0 w' F O p S q seq r b st x y L T V' U cap:=by
 obtain⟨a1,a2,a3,a4,a5⟩:=h.apart;have hblk:∀k,k<w.heap.size->k≠x->w'.heap[k]?=w.heap[k]?:=fun k hk hn=>hto.block k hk hn
 have hpg:ZaN D w' F O p S q seq r b L:=h.top.at_.pg.keep api hto.size fun k hk=>hblk k (h.top.at_.pg.lt k hk) (fun e=>a1 (e ▸ hk))
 obtain⟨A,n,c,c1,c2,c3⟩:=h.tabs
 have hst:st≠x:=fun e=>by
  have h1:w.heap[st]?=_:=h.top.at_.sto;obtain⟨A2,n2,k2,d1,_⟩:=h.tab;have d1':w.heap[x]?=_:=d1;rw[e,d1']at h1;simp at h1
 have htab:Zdf w' F:=Did.tab (O:=fun k=>k=x) (fun e=>by have:=h.glob;omega) h.top.at_.tab hto;refine⟨⟨⟨hpg,htab,h.top.at_.len,(hblk st h.top.at_.lt hst).trans h.top.at_.sto,h.top.at_.out⟩,h.top.len,h.top.out⟩,h.own,h.bel.trans (Zf.below hto (fun k hk=>by rw[hk];exact a4) h.base),h.now,h.safe,h.kp,ht,?_,h.apart,h.glob⟩;exact⟨A,n,c,(hblk y h.tabs.lt (fun e=>a3 e.symm)).trans c1,.inr (.inr rfl),c3.keep hto.size (fun _ _ h=>h) (fun k hk hn=>hblk k hk (fun e=>hn (.inr (.inl e))))⟩
end
section
variable{D:World->(Nat->Prop)->Addr->DS->Prop}{w0 w w':World}{F O:Nat->Prop}{p:Addr}{S:DS}{q r b st x y B:Nat}{seq:Int}{L L':List (Int×List Int)}{T T' V U:TL}{cap:Nat}
theorem Z9.put(api:Zb D)(h:Z9 D B w0 w F O p S q seq r b st x y L T V U cap){ka va:Option Addr}{kn kc vn vc C C':Nat}{l u:List Int}(hk:RB w C ka kn l)(hC:C<=w.heap.size)(hv:RB w C' va vn u)(hC':C'<=w.heap.size)(hkc:kn<=kc/\kn<=maxLen)(hvc:vn<=vc/\vn<=maxLen)(hroom:1044+T.length<=cap) :
 Calls prog 40 #[.pointer (some ⟨st,0,none⟩),.slice ka kn kc,.slice va vn vc] w fun z w'=>z=.returned (.int .i64 (if Zcz kn vn then 0 else 1))/\∃O' L',Z9 D B w0 w' F O' p S q seq r b st x y L' (if Zcz kn vn then Zff T (tx l) u else T) V U cap/\Zf O w w'/\∀k,O' k->O k∨w.heap.size<=k:=by
 obtain⟨L',h1,h2⟩:=h.now.put api h.top hk hC hv hC' hkc hvc hroom;refine h2.mono fun z w' hz=>⟨hz.1,?_⟩
 obtain⟨O',h3,h4,h5⟩:=h.aft h1 hz.2;exact⟨O',L',h3,h4,h5⟩
theorem Z9.del(api:Zb D)(h:Z9 D B w0 w F O p S q seq r b st x y L T V U cap){ka:Option Addr}{kn kc C:Nat}{l:List Int}(hk:RB w C ka kn l)(hC:C<=w.heap.size)(hkc:kn<=kc/\kn<=maxLen) :
 Calls prog 42 #[.pointer (some ⟨st,0,none⟩),.slice ka kn kc] w fun z w'=>z=.returned (.tuple #[.bool (Zak T (tx l)).isSome,.int .i64 0])/\∃O' L',Z9 D B w0 w' F O' p S q seq r b st x y L' (Zfg T (tx l)) V U cap/\Zf O w w'/\∀k,O' k->O k∨w.heap.size<=k:=by
 obtain⟨L',h1,h2⟩:=h.now.del api h.top hk hC hkc;refine h2.mono fun z w' hz=>⟨hz.1,?_⟩
 obtain⟨O',h3,h4,h5⟩:=h.aft h1 hz.2;exact⟨O',L',h3,h4,h5⟩
theorem Z9.get(api:Zb D)(h:Z9 D B w0 w F O p S q seq r b st x y L T V U cap){ka:Option Addr}{kn kc C:Nat}{l:List Int}(hk:RB w C ka kn l)(hC:C<=w.heap.size)(hkn:kn<=maxLen) :
 Calls prog 41 #[.pointer (some ⟨st,0,none⟩),.slice ka kn kc] w fun z w'=>∃(A:Option Addr) (n c:Nat),z=.returned (.tuple #[.slice A n c,.bool (Zak T (tx l)).isSome,.int .i64 0])/\n<=c/\n<=maxLen/\RB w' w'.heap.size A n ((Zak T (tx l)).getD [])/\RowKit.Below w.heap.size w w':=
 h.now.get api h.top hk hC hkn
theorem Z9.len(api:Zb D)(h:Z9 D B w0 w F O p S q seq r b st x y L T V U cap) :
 Calls prog 43 #[.pointer (some ⟨st,0,none⟩)] w fun z w'=>z=.returned (.int .i64 (T.length:Int))/\RowKit.Below w.heap.size w w':=h.now.len api h.top
theorem Z9.tput(api:Zb D)(h:Z9 D B w0 w F O p S q seq r b st x y L T V U cap){ka va:Option Addr}{kn kc vn vc C C':Nat}{l u:List Int}(hk:RB w C ka kn l)(hC:C<=w.heap.size)(hv:RB w C' va vn u)(hC':C'<=w.heap.size)(hkn:kn<=140737488355328)(hvn:vn<=140737488355328)(hV:V.length<=2147483647) :
 Calls prog 47 #[.pointer (some ⟨x,0,none⟩),.slice ka kn kc,.slice va vn vc] w fun z w'=>z=.returned (.tuple #[])/\Z9 D B w0 w' F O p S q seq r b st x y L T (Zff V (tx l) u) U cap/\Zf (fun k=>k=x) w w':=
 (ZmX h.tab h.xlt hV hk hC hkn hv hC' hvn).mono fun z w' hz=>⟨hz.1,h.table api hz.2.1 hz.2.2,hz.2.2⟩
theorem Z9.tdel(api:Zb D)(h:Z9 D B w0 w F O p S q seq r b st x y L T V U cap){ka:Option Addr}{kn kc C:Nat}{l:List Int}(hk:RB w C ka kn l)(hC:C<=w.heap.size)(hV:V.length<=2147483647) :
 Calls prog 48 #[.pointer (some ⟨x,0,none⟩),.slice ka kn kc] w fun z w'=>z=.returned (.bool (Zak V (tx l)).isSome)/\Z9 D B w0 w' F O p S q seq r b st x y L T (Zfg V (tx l)) U cap/\Zf (fun k=>k=x) w w':=
 (Zip h.tab h.xlt (ZZf hV (by decide)) hk hC).mono fun z w' hz=>⟨hz.1,h.table api hz.2.1 hz.2.2,hz.2.2⟩
theorem Z9.tget(h:Z9 D B w0 w F O p S q seq r b st x y L T V U cap){ka:Option Addr}{kn kc C:Nat}{l:List Int}(hk:RB w C ka kn l)(hC:C<=w.heap.size)(hV:V.length<=2147483647) :
 Calls prog 30 #[.pointer (some ⟨x,0,none⟩),.slice ka kn kc] w fun z w'=>∃u,z=.returned (.tuple #[u,.bool (Zak V (tx l)).isSome])/\SV w' (fun k=>k<w.heap.size) u ((Zak V (tx l)).getD [])/\RowKit.Below w.heap.size w w':=
 ZmW h.tab (ZZf hV (by decide)) hk hC
theorem Z9.commit(api:Zb D)(h:Z9 D B w0 w F O p S q seq r b st x y L T V U cap)(hs:seq<999999)(hw:S.writes<=1000000) :
 Calls prog 44 #[.pointer (some ⟨r,0,none⟩)] w fun z w'=>z=.returned (.int .i64 0)/\∃F' O' S' seq',ZaN D w' F' O' p S' q seq' r b []/\Zdf w' F'/\Ziz S'/\¬O' 1/\ZO S' [] T cap/\(∃f,Kp S' f seq')/\seq'<=seq+1/\S'.writes<=S.writes+(2*L.length+1)/\Zf O w w'/\∀k,O' k->O k∨w.heap.size<=k:=by
 obtain⟨f,hK⟩:=h.kp;have hs0:=hK.s0;have h1:=h.top;refine(ZgC api h1.at_.pg h1.at_.tab ⟨hs0,by omega⟩ (by omega)).mono ?_;rintro e w'⟨rfl,F',O',d1,d2,d3,d4⟩
 have hnO:∀k,k<w.heap.size->¬O k->¬O' k:=fun k hk ho e=>by
  rcases d4 k e with a|a
  · exact ho a
  · omega
 have ht0:=Did.tab h1.out h1.at_.tab d2
 have htab:Zdf w' F':=⟨ht0.tab,ht0.lt,fun e=>by
  rcases d3 _ e with a|a
  · exact ht0.out a
  · have:=h1.at_.tab.lt
    omega⟩
 by_cases hne:L = []
 · subst hne;rw[ZbE]at d1;have hleft:ZdD S seq [] = []:=by unfold ZdD;rw[ZbE];exact if_pos rfl
   rw[hleft]at d1;refine⟨by rw[ZbE],F',O',S,seq,d1,htab,hK.len,hnO _ h1.at_.tab.lt h1.out,h.now,⟨f,hK⟩,by omega,by omega,d2,d4⟩
 · obtain⟨c1,c2,c3,c4,⟨g,cK⟩,c5⟩:=hK.commit h1.at_.pg.up h1.at_.pg.all hne hs;have hleft:ZdD S seq L = []:=by unfold ZdD;rw[if_pos c1]
   rw[c2,hleft]at d1;exact⟨by rw[c1],F',O',_,_,d1,htab,cK.len,hnO _ h1.at_.tab.lt h1.out,ZO.commit hK h1.at_.pg.up h1.at_.pg.all hne hs h.now,⟨g,cK⟩,by omega,by omega,d2,d4⟩
theorem Z9.abort(api:Zb D)(h:Z9 D B w0 w F O p S q seq r b st x y L T V U cap) :
 Calls prog 46 #[.pointer (some ⟨r,0,none⟩)] w fun z w'=>z=.returned (.tuple #[])/\ZaN D w' F O p S q seq r b []/\w.grownBy w' (some b):=
 Zl7 api h.top.at_.pg
end
structure Zem(D:World->(Nat->Prop)->Addr->DS->Prop)(B:Nat)(w0 w:World)(F O:Nat->Prop)(p:Addr)(S:DS)(q:Nat)(seq:Int)(r b x y:Nat)(T V U:TL)(cap:Nat):Prop where
 pg:ZaN D w F O p S q seq r b []
 ftab:Zdf w F
 len:Ziz S
 out:¬O 1
 own:∀k,O k->B<=k
 bel:RowKit.Below B w0 w
 now:ZO S [] T cap
 kp:∃f,Kp S f seq
 tab:Zbm w (fun k=>O k∨k=x∨k=y) x V
 tabs:Zbm w (fun k=>O k∨k=x∨k=y) y U
 apart:¬O x/\¬O y/\x≠y/\B<=x/\B<=y
 glob:1<B
section
variable{D:World->(Nat->Prop)->Addr->DS->Prop}{w0 w w':World}{F O F' O':Nat->Prop}{p:Addr}{S S':DS}{q r b st x y B:Nat}{seq seq':Int}{L L':List (Int×List Int)}{T T' V U:TL}{cap:Nat}
theorem Z9.paged(h:Z9 D B w0 w F O p S q seq r b st x y L T V U cap)(hpg:ZaN D w' F' O' p S' q seq' r b [])(hft:Zdf w' F')(hlen:Ziz S')(hT:ZO S' [] T' cap)(hK:∃f,Kp S' f seq')(h2:Zf O w w')(h3:∀k,O' k->O k∨w.heap.size<=k):Zem D B w0 w' F' O' p S' q seq' r b x y T' V U cap:=by
 obtain⟨a1,a2,a3,a4,a5⟩:=h.apart;have hx:=h.tab.lt;have hy:=h.tabs.lt
 have hX:∀k,k<w.heap.size->¬(O k∨k=x∨k=y)->¬(O' k∨k=x∨k=y):=fun k hk hn hn'=>by
  rcases hn' with a|a
  · rcases h3 k a with c|c
    · exact hn (.inl c)
    · omega
  · exact hn (.inr a)
 have hkeep:∀{t:Nat} {Z:TL},(t=x∨t=y)->Zbm w (fun k=>O k∨k=x∨k=y) t Z->Zbm w' (fun k=>O' k∨k=x∨k=y) t Z:=fun {t Z} ht hz=>by
  obtain⟨A,n,c,c1,c2,c3⟩:=hz;have hto:¬O t:=by rcases ht with rfl|rfl;exact a1;exact a2
  have htl:t<w.heap.size:=by rcases ht with rfl|rfl;exact hx;exact hy
  exact⟨A,n,c,(h2.block t htl hto).trans c1,.inr ht,c3.keep h2.size hX (fun k hk hn=>h2.block k hk (fun e=>hn (.inl e)))⟩
 have hno:∀k,k<w.heap.size->¬O k->¬O' k:=fun k hk ho e=>by
  rcases h3 k e with c|c
  · exact ho c
  · omega
 refine⟨hpg,hft,hlen,hno _ h.top.at_.tab.lt h.top.out,fun k hk=>?_,h.bel.trans (Zf.below h2 h.own h.base),hT,hK,hkeep (.inl rfl) h.tab,hkeep (.inr rfl) h.tabs,⟨hno x hx a1,hno y hy a2,a3,a4,a5⟩,h.glob⟩;rcases h3 k hk with c|c
 · exact h.own k c
 · exact ZZf h.base c
theorem Zem.base(h:Zem D B w0 w F O p S q seq r b x y T V U cap):B<=w.heap.size:=ZZf h.apart.2.2.2.1 (Nat.le_of_lt h.tab.lt)
theorem Zem.given(api:Zb D)(h:Zem D B w0 w F O p S q seq r b x y T V U cap){z:Nat}(hz:z=x∨z=y){v:Value}:ZaN D (w.setCell ⟨z,0,none⟩ v) F O p S q seq r b []/\Zdf (w.setCell ⟨z,0,none⟩ v) F/\Zf (fun k=>k=z) w (w.setCell ⟨z,0,none⟩ v)/\RowKit.Below B w0 (w.setCell ⟨z,0,none⟩ v):=by
 obtain⟨a1,a2,a3,a4,a5⟩:=h.apart;have hto:Zf (fun k=>k=z) w (w.setCell ⟨z,0,none⟩ v):=⟨by simp[World.setCell],by simp[World.setCell],by simp[World.setCell],by simp[World.setCell],fun k _ hn=>Below.heap_setCell w ⟨z,0,none⟩ v k hn⟩
 have hzO:¬O z:=by rcases hz with rfl|rfl;exact a1;exact a2
 have hzB:B<=z:=by rcases hz with rfl|rfl;exact a4;exact a5
 exact⟨h.pg.keep api hto.size fun k hk=>Below.heap_setCell w ⟨z,0,none⟩ v k (fun e=>hzO (by have e2:k=z:=e;rw[<-e2];exact hk)),Did.tab (O:=fun k=>k=z) (fun e=>by have:=h.glob;omega) h.ftab hto,hto,h.bel.trans (Zf.below hto (fun k hk=>by rw[hk];exact hzB) h.base)⟩
theorem Zem.setY(api:Zb D)(h:Zem D B w0 w F O p S q seq r b x y T V U cap){A:Option Addr}{n c:Nat}(hx:w.heap[x]?=some (.cells #[.slice A n c] 37 (0,0)))(hs:SPs w (fun k=>O k∨k=x∨k=y) A n c V):Zem D B w0 (w.setCell ⟨y,0,none⟩ (.slice A n c)) F O p S q seq r b x y T V V cap:=by
 obtain⟨g1,g2,g3,g4⟩:=h.given api (z:=y) (.inr rfl) (v:=.slice A n c);obtain⟨a1,a2,a3,a4,a5⟩:=h.apart;obtain⟨A2,n2,c2,d1,_,_⟩:=h.tabs;have hs':SPs (w.setCell ⟨y,0,none⟩ (.slice A n c)) (fun k=>O k∨k=x∨k=y) A n c V:=hs.keep g3.size (fun _ _ h=>h) (fun k hk hn=>g3.block k hk (fun e=>hn (.inr (.inr e))));exact⟨g1,g2,h.len,h.out,h.own,g4,h.now,h.kp,⟨A,n,c,(Below.heap_setCell w ⟨y,0,none⟩ _ x a3).trans hx,.inr (.inl rfl),hs'⟩,⟨A,n,c,heap_setCell_same w y 0 _ _ (.slice A n c) d1,.inr (.inr rfl),hs'⟩,h.apart,h.glob⟩
theorem Zem.setX(api:Zb D)(h:Zem D B w0 w F O p S q seq r b x y T V U cap){A:Option Addr}{n c:Nat}(hy:w.heap[y]?=some (.cells #[.slice A n c] 37 (0,0)))(hs:SPs w (fun k=>O k∨k=x∨k=y) A n c U):Zem D B w0 (w.setCell ⟨x,0,none⟩ (.slice A n c)) F O p S q seq r b x y T U U cap:=by
 obtain⟨g1,g2,g3,g4⟩:=h.given api (z:=x) (.inl rfl) (v:=.slice A n c);obtain⟨a1,a2,a3,a4,a5⟩:=h.apart;obtain⟨A2,n2,c2,d1,_,_⟩:=h.tab;have hs':SPs (w.setCell ⟨x,0,none⟩ (.slice A n c)) (fun k=>O k∨k=x∨k=y) A n c U:=hs.keep g3.size (fun _ _ h=>h) (fun k hk hn=>g3.block k hk (fun e=>hn (.inr (.inl e))));exact⟨g1,g2,h.len,h.out,h.own,g4,h.now,h.kp,⟨A,n,c,heap_setCell_same w x 0 _ _ (.slice A n c) d1,.inr (.inl rfl),hs'⟩,⟨A,n,c,(Below.heap_setCell w ⟨x,0,none⟩ _ y (fun e=>a3 e.symm)).trans hy,.inr (.inr rfl),hs'⟩,h.apart,h.glob⟩
theorem Zem.open_(api:Zb D)(h:Zem D B w0 w F O p S q seq r b x y T V T cap) :
 Calls prog 49 #[.pointer (some ⟨r,0,none⟩)] w fun z w'=>∃st,z=.returned (.tuple #[.pointer (some ⟨st,0,none⟩),.int .i64 0])/\Z9 D B w0 w' F O p S q seq r b st x y [] T V T cap:=
 (ZO.open_ api h.pg h.ftab h.len h.out h.now).mono fun z w' hz=>by
  obtain⟨st,z1,z2,z3,z4⟩:=hz;exact⟨st,z1,z3,h.own,h.bel.trans (z4.mono h.base),h.now,h.now,h.kp,h.tab.below z4,h.tabs.below z4,h.apart,h.glob⟩
theorem Z9.commitP(api:Zb D)(h:Z9 D B w0 w F O p S q seq r b st x y L T V U cap)(hs:seq<999999)(hw:S.writes<=1000000) :
 Calls prog 44 #[.pointer (some ⟨r,0,none⟩)] w fun z w'=>z=.returned (.int .i64 0)/\∃F' O' S' seq',Zem D B w0 w' F' O' p S' q seq' r b x y T V U cap/\seq'<=seq+1/\S'.writes<=S.writes+(2*L.length+1):=
 (h.commit api hs hw).mono fun z w' hz=>by
  obtain⟨z1,F',O',S',seq',z2,z3,z4,z5,z6,z7,z8,z9,z10,z11⟩:=hz;exact⟨z1,F',O',S',seq',h.paged z2 z3 z4 z6 z7 z10 z11,z8,z9⟩
theorem Z9.abortP(api:Zb D)(h:Z9 D B w0 w F O p S q seq r b st x y L T V U cap) :
 Calls prog 46 #[.pointer (some ⟨r,0,none⟩)] w fun z w'=>z=.returned (.tuple #[])/\Zem D B w0 w' F O p S q seq r b x y U V U cap:=
 (h.abort api).mono fun z w' hz=>by
  obtain⟨z1,z2,z3⟩:=hz;have ht:Zf O w w':=Zf5 z3 (h.top.at_.pg.own b (.inr (.inr (.inr rfl))));exact⟨z1,h.paged z2 (Did.tab h.top.out h.top.at_.tab ht) h.top.len h.safe h.kp ht (fun _ hk=>.inl hk)⟩
end
section
variable{D:World->(Nat->Prop)->Addr->DS->Prop}{w0 w w':World}{F O F' O':Nat->Prop}{p:Addr}{S S':DS}{q r b st x y B:Nat}{seq seq':Int}{L L':List (Int×List Int)}{T T' V U:TL}{cap:Nat}{f:Nat->List Int}
theorem ZmY(api:Zb D)(h:Top D w F O p S q seq r b st L)(hT:ZO S L T cap)(hK:∃f,Kp S f seq)(hs:seq<999999)(hw:S.writes<=1000000) :
 Calls prog 44 #[.pointer (some ⟨r,0,none⟩)] w fun z w'=>z=.returned (.int .i64 0)/\∃F' O' S' seq',Top D w' F' O' p S' q seq' r b st []/\ZO S' [] T cap/\(∃f,Kp S' f seq')/\seq'<=seq+1/\S'.writes<=S.writes+(2*L.length+1)/\Zf O w w'/\∀k,O' k->O k∨w.heap.size<=k:=by
 obtain⟨f,hK⟩:=hK;have hs0:=hK.s0;refine(ZgC api h.at_.pg h.at_.tab ⟨hs0,by omega⟩ (by omega)).mono ?_;rintro e w'⟨rfl,F',O',d1,d2,d3,d4⟩
 have hnO:∀k,k<w.heap.size->¬O k->¬O' k:=fun k hk ho e=>by
  rcases d4 k e with a|a
  · exact ho a
  · omega
 have ht0:=Did.tab h.out h.at_.tab d2
 have htab:Zdf w' F':=⟨ht0.tab,ht0.lt,fun e=>by
  rcases d3 _ e with a|a
  · exact ht0.out a
  · have:=h.at_.tab.lt
    omega⟩
 have hsto:ZoZ w' st r:=(d2.block st h.at_.lt h.at_.out).trans h.at_.sto;by_cases hne:L = []
 · subst hne;rw[ZbE]at d1;have hleft:ZdD S seq [] = []:=by unfold ZdD;rw[ZbE];exact if_pos rfl
   rw[hleft]at d1;exact⟨by rw[ZbE],F',O',S,seq,⟨⟨d1,htab,hK.len.get d1.all,hsto,hnO st h.at_.lt h.at_.out⟩,hK.len,hnO _ h.at_.tab.lt h.out⟩,hT,⟨f,hK⟩,by omega,by omega,d2,d4⟩
 · obtain⟨c1,c2,c3,c4,⟨g,cK⟩,c5⟩:=hK.commit h.at_.pg.up h.at_.pg.all hne hs;have hleft:ZdD S seq L = []:=by unfold ZdD;rw[if_pos c1]
   rw[c2,hleft]at d1;exact⟨by rw[c1],F',O',_,_,⟨⟨d1,htab,cK.len.get d1.all,hsto,hnO st h.at_.lt h.at_.out⟩,cK.len,hnO _ h.at_.tab.lt h.out⟩,ZO.commit hK h.at_.pg.up h.at_.pg.all hne hs hT,⟨g,cK⟩,by omega,by omega,d2,d4⟩
theorem Z9.start(api:Zb D)(h:Top D w F O p S q seq r b st [])(hT:ZO S [] [] cap)(hK:∃f,Kp S f seq)(hown:∀k,O k->B<=k)(hbel:RowKit.Below B w0 w)(hB:B<=w.heap.size)(hg:1<B) :
 Z9 D B w0 ((w.alloc (.cells #[.slice none 0 0] 37)).alloc (.cells #[.slice none 0 0] 37)) F O p S q seq r b st w.heap.size (w.heap.size+1) [] [] [] [] cap:=by
 obtain⟨w1,hw1⟩:∃w1,w1=w.alloc (.cells #[.slice none 0 0] 37):=⟨_,rfl⟩
 have hb1:RowKit.Below w.heap.size w w1:=by rw[hw1];exact(RowKit.Below.refl _ _).alloc (ZZe _) _
 have hs1:w1.heap.size=w.heap.size+1:=by rw[hw1];simp
 have h1:w1.heap[w.heap.size]?=some (.cells #[.slice none 0 0] 37 (0,0)):=by rw[hw1];exact heap_alloc_new _ _
 rw[<-hw1];have hb2:RowKit.Below w1.heap.size w1 (w1.alloc (.cells #[.slice none 0 0] 37)):=(RowKit.Below.refl _ _).alloc (ZZe _) _;have h2:(w1.alloc (.cells #[.slice none 0 0] 37)).heap[w1.heap.size]?=some (.cells #[.slice none 0 0] 37 (0,0)):=heap_alloc_new _ _;rw[hs1]at h2;have hlt:=h.at_.pg.lt;have hb:RowKit.Below w.heap.size w (w1.alloc (.cells #[.slice none 0 0] 37)):=hb1.trans (hb2.mono hb1.size);refine⟨h.below api hb,hown,hbel.trans (hb.mono hB),hT,hT,hK,⟨none,0,0,(hb2.block _ (by omega)).trans h1,.inr (.inl rfl),SPs.nil_ _ _ _ _⟩,⟨none,0,0,h2,.inr (.inr rfl),SPs.nil_ _ _ _ _⟩,⟨fun e=>?_,fun e=>?_,by omega,hB,by omega⟩,hg⟩
 · have:=hlt _ e;omega
 · have:=hlt _ e;omega
end
end Go.Proofs.YtlmkdmdbpopnhaaGreatDoor
