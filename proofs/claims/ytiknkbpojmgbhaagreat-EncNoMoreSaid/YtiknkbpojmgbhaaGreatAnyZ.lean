/- AnyT, AnyZ. Conditions: in each theorem. -/
import Derived.Test.YtiknkbpojmgbhaaGreatBase
import Derived.OrdersHeld
import Derived.StillTail
set_option maxRecDepth 100000
set_option linter.unusedVariables false
namespace Go.Proofs.YtiknkbpojmgbhaaGreat
open Go.RowKit
section
variable{P:Program}{ops:Array Oper}{Q:Exit->Act->World->Prop}{md:Region.Mode}{S:World->Prop}{z:Nat}
def Zcg(P:Program)(md:Region.Mode)(ops:Array Oper)(Q:Exit->Act->World->Prop)(S:World->Prop)(z:Nat):Nat->Array Bool->Act->World->Prop
 | 0,listed,a,w=>Region.ready md ops listed = []/\Q .normal a w
 | fuel+1,listed,a,w=>
  (Region.ready md ops listed = []->Q .normal a w)/\
  ∀j∈Region.ready md ops listed,(j=z->wpOp P ops Q j (fun a' w'=>wpAny P md ops Q fuel (listed.setIfInBounds j true) a' w') a w)/\
   (j≠z->wpOp P ops Q j (fun a' w'=>S w'/\Zcg P md ops Q S z fuel (listed.setIfInBounds j true) a' w') a w)
theorem ZaP:∀(fuel:Nat) (listed:Array Bool) (a:Act) (w:World),Zcg P md ops Q S z fuel listed a w->wpAny P md ops Q fuel listed a w
 | 0,_,_,_,h=>h
 | fuel+1,_,_,_,h=>⟨h.1,fun j hj=>by
  by_cases hw:j=z
  · exact(h.2 j hj).1 hw
  · exact wpOp_mono (fun a' w' h'=>ZaP fuel _ a' w' h'.2) ((h.2 j hj).2 hw)⟩
theorem Zh4{i:Nat}{oi:Oper}{v:Value}(hi:ops[i]?=some oi)(hiz:i≠z)(hzw:Region.waitsFor md ops z i=true)(hsel:∀(j:Nat) (o:Oper) cs b,ops[j]?=some o->o.op≠.select cs b)
 (hQ:∀c a w,Q (.panic c) (a.put oi.dst v) w->Q (.panic c) a w) :
 ∀(fuel:Nat) (listed:Array Bool) (a:Act) (w:World),
  (∀j oj,ops[j]?=some oj->j≠i->listed.getD j true=false->(∀e∈oj.after,Region.binds md e=true->e.on≠i)->oi.apart ops oj=true)->
  i∈Region.ready md ops listed->YieldsIf P ops S oi v a->S w->
  Zcg P md ops Q S z fuel (listed.setIfInBounds i true) (a.put oi.dst v) w->Zcg P md ops Q S z (fuel+1) listed a w:=by
 intro fuel
 induction fuel with
 | zero=>
  intro listed a w _ hr hy hS H;refine⟨fun h=>(by rw[h]at hr;cases hr),fun j hj=>?_⟩;by_cases hji:j=i
  · subst hji;exact⟨fun e=>absurd e hiz,fun _=>hy.wpOp hi hS ⟨hS,H⟩⟩
  · have:=ready_mono hj hji
    rw[H.1]at this;cases this
 | succ fuel ih=>
  intro listed a w hfree hr hy hS H;refine⟨fun h=>(by rw[h]at hr;cases hr),fun j hj=>?_⟩;by_cases hji:j=i
  · subst hji;exact⟨fun e=>absurd e hiz,fun _=>hy.wpOp hi hS ⟨hS,H⟩⟩
  · obtain⟨hjun,oj,hoj,hall⟩:=mem_ready.1 hj
    have hnot:∀e∈oj.after,Region.binds md e=true->e.on≠i:=fun e he hb heq=>by
     have h1:=hall e he hb;have h0:=(mem_ready.1 hr).1;rw[heq]at h1;rcases Nat.lt_or_ge i listed.size with h'|h'
     · simp[h']at h0 h1;rw[h0]at h1;cases h1
     · simp[Array.getElem?_eq_none h']at h1
    refine⟨fun e=>?_,fun hjz=>?_⟩
    · subst e;obtain⟨oj',hoj',e,he,hb,heq⟩:=Region.waitsFor_spec hzw;rw[hoj]at hoj';cases hoj';exact absurd heq (hnot e he hb)
    have h1:=(H.2 j (ready_mono hj hji)).2 hjz;have h2:=wpOp_putIf hoj (hfree j oj hoj hji hjun hnot) (fun cs b=>hsel i oi cs b hi) (fun cs b=>hsel j oj cs b hoj) hQ hy h1
    have hfree':∀k ok,ops[k]?=some ok->k≠i->(listed.setIfInBounds j true).getD k true=false->
     (∀e∈ok.after,Region.binds md e=true->e.on≠i)->oi.apart ops ok=true:=fun k ok hk hki hun hno=>by
     refine hfree k ok hk hki ?_ hno;by_cases hjk:j=k
     · subst hjk;exact hjun
     · rw[getD_set_ne true hjk]at hun;exact hun
    refine wpOp_mono (fun a' w' h3=>⟨h3.2.1,ih (listed.setIfInBounds j true) a' w' hfree' (ready_mono hr (Ne.symm hji)) h3.1 h3.2.1 ?_⟩) h2;rw[Array.setIfInBounds_comm _ _ hji];exact h3.2.2
theorem Zb{i:Nat}{oi:Oper}{v:Value}{fuel:Nat}{listed:Array Bool}{a:Act}{w:World}(hi:ops[i]?=some oi)(hiz:i≠z)(hzw:Region.waitsFor md ops z i=true)
 (hs:Region.noSelect ops=true) (hf:Region.free md ops listed i=true) (hr:(Region.ready md ops listed).contains i=true)
 (hQ:∀c a w,Q (.panic c) (a.put oi.dst v) w->Q (.panic c) a w) (hy:YieldsIf P ops S oi v a) (hS:S w)
 (h:Zcg P md ops Q S z fuel (listed.setIfInBounds i true) (a.put oi.dst v) w):Zcg P md ops Q S z (fuel+1) listed a w:=
 Zh4 hi hiz hzw (Region.noSelect_spec hs) hQ fuel listed a w (Region.free_spec hi hf) (by simpa using hr) hy hS h
theorem Zl{j fuel:Nat}{o:Oper}{listed:Array Bool}{a:Act}{w:World}(ho:ops[j]?=some o)(hr:Region.ready md ops listed = [j])(hjz:j≠z)
 (h:∀K':Act->World->Prop,(∀a w,S w->Zcg P md ops Q S z fuel (listed.setIfInBounds j true) a w->K' a w)->if Region.wanted o (yielded ops a.tmps)=true then Oper.wp P o a w K' Q else K' (a.put o.dst undef) w):Zcg P md ops Q S z (fuel+1) listed a w:=by
 refine⟨fun h0=>(by rw[hr]at h0;cases h0),fun k hk=>?_⟩;rw[hr]at hk;obtain rfl:=List.mem_singleton.1 hk;exact⟨fun e=>absurd e hjz,fun _=>wpOp_step ho (fun K' hK=>h K' (fun a w h1 h2=>hK a w ⟨h1,h2⟩))⟩
theorem ZcA{j k fuel:Nat}{o o':Oper}{listed:Array Bool}{a:Act}{w:World}(ho:ops[j]?=some o)(ho':ops[k]?=some o')(hr:Region.ready md ops listed = [j,k])(hjz:j≠z)(hkz:k≠z)
 (h:∀K':Act->World->Prop,(∀a w,S w->Zcg P md ops Q S z fuel (listed.setIfInBounds j true) a w->K' a w)->if Region.wanted o (yielded ops a.tmps)=true then Oper.wp P o a w K' Q else K' (a.put o.dst undef) w)
 (h':∀K':Act->World->Prop,(∀a w,S w->Zcg P md ops Q S z fuel (listed.setIfInBounds k true) a w->K' a w)->if Region.wanted o' (yielded ops a.tmps)=true then Oper.wp P o' a w K' Q else K' (a.put o'.dst undef) w):Zcg P md ops Q S z (fuel+1) listed a w:=by
 refine⟨fun h0=>(by rw[hr]at h0;cases h0),fun m hm=>?_⟩;rw[hr]at hm;rcases List.mem_cons.1 hm with rfl|hm
 · exact⟨fun e=>absurd e hjz,fun _=>wpOp_step ho (fun K' hK=>h K' (fun a w h1 h2=>hK a w ⟨h1,h2⟩))⟩
 · obtain rfl:=List.mem_singleton.1 hm;exact⟨fun e=>absurd e hkz,fun _=>wpOp_step ho' (fun K' hK=>h' K' (fun a w h1 h2=>hK a w ⟨h1,h2⟩))⟩
theorem Z4{fuel:Nat}{o:Oper}{listed:Array Bool}{a:Act}{w:World}(ho:ops[z]?=some o)(hr:Region.ready md ops listed = [z])
 (h:∀K':Act->World->Prop,(∀a w,wpAny P md ops Q fuel (listed.setIfInBounds z true) a w->K' a w)->if Region.wanted o (yielded ops a.tmps)=true then Oper.wp P o a w K' Q else K' (a.put o.dst undef) w):Zcg P md ops Q S z (fuel+1) listed a w:=by
 refine⟨fun h0=>(by rw[hr]at h0;cases h0),fun k hk=>?_⟩;rw[hr]at hk;obtain rfl:=List.mem_singleton.1 hk;exact⟨fun _=>wpOp_step ho h,fun e=>absurd rfl e⟩
end
end Go.Proofs.YtiknkbpojmgbhaaGreat
