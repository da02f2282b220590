/-
  For any nodes and calls: expenditures are done as the document says, or refused, so the statement returns true. No condition beyond those that the statement itself says.
-/
import Derived.Test.YtiknkbpojmgbhaaGreatRows
import Derived.Test.YtiknkbpojmgbhaaGreatExpNewW
import Derived.WalkKit
import Derived.ProofKit
import Derived.OpenShut
import Derived.ShutString
import Derived.ChangeOld
import Derived.Below
set_option maxHeartbeats 6400000
set_option maxRecDepth 100000
set_option linter.unusedVariables false
open Go.Proofs.Tryz
namespace Go.Proofs.YtiknkbpojmgbhaaGreat.expNew
open Go.ChangeShapes Go.WideShapes Go.ChangeAt Go.RowKit
open Go.ChangeMaps (open_string shut_string)
theorem own:ownKnob prog.godebug=none:=by kernel_rfl
theorem laidOut:laidOutB prog=true:=by kernel_rfl
theorem walk(a0:Option Addr)(len0 cap0:Nat)(ds0:List Nd)(a1:Option Addr)(len1 cap1:Nat)(ds1:List ZfN)(a2:Option Addr)(len2 cap2:Nat)(ds2:List ZfN)(w:World)(w0:NdE.R w w.heap.size a0 len0 ds0)(c0:len0<=cap0/\len0<=maxLen)(w1:Dos33E.R w w.heap.size a1 len1 ds1)(c1:len1<=cap1/\len1<=maxLen)(w2:Dos33E.R w w.heap.size a2 len2 ds2)(c2:len2<=cap2/\len2<=maxLen) :
 Calls prog 4 #[.slice a0 len0 cap0,.slice a1 len1 cap1,.slice a2 len2 cap2] w fun e w'=>e=.returned (.bool true)/\Below w.heap.size w w':=by
 exact Zhb w0 c0.1 c0.2 w1 c1.1 c1.2 w2 c2.1 c2.2
set_option maxRecDepth 100000 in
theorem lifted(os:Os)(started:os.Started)(H:Type)(enc:TypeId×Value->H) :
 ReturnsInHanded {} Tryz.checked os 4 .any (Rows.expNewSpec.pre6 enc prog Tryz.f4 Rows.expNewRow.domain false) (Rows.expNewSpec.post enc prog Tryz.f4 false true false false):=by
 refine returnsInHanded_of_change (C:=Tryz.checked) own started (by kernel_rfl) func4
  (ChangeSpec.witness6 (enc:=enc) (C:=Tryz.checked) false ⟨#[],#[.slice none 0 0,.slice none 0 0,.slice none 0 0],[]⟩ 8 (by kernel_rfl) (by kernel_rfl) (by kernel_rfl) (by kernel_rfl)) ?_
 intro W base args ds gs before hval0 hW hcnd _;have hval:∀(j:Nat) t v,Tryz.f4.params[j]?=some t->args[j]?=some v->Value.okWide prog W .any base t v:=hval0;have hW':=hW;obtain⟨p,q,hA0,hV,rfl,hfz,hnd⟩:=hW;have hA:DataW.TrodAll enc prog W 0 (fun _=>true) true Tryz.f4.params.toList args.toList ds p:=hA0;rw[Tryz.params4]at hA hval;obtain⟨v0,vs0,d0,ds0,p0,q0,hargs,rfl,rfl,h0,r0⟩:=trodAll_cons hA;obtain⟨v1,vs1,d1,ds1,p1,q1,rfl,rfl,rfl,h1,r1⟩:=trodAll_cons r0;obtain⟨v2,vs2,d2,ds2,p2,q2,rfl,rfl,rfl,h2,r2⟩:=trodAll_cons r1;obtain⟨rfl,rfl,rfl⟩:=trodAll_nil r2;obtain rfl:args = #[v0,v1,v2]:=by cases args;simp_all
 obtain⟨rfl,rfl⟩:=trodVars_none hV;obtain⟨a0,len0,cap0,rfl⟩:=okWide_slice underlying22 (hval 0 22 v0 rfl rfl);have k0:=h0;have lt0:∀x∈p0,x.block<W.heap.size:=by obtain⟨m,hm⟩:=k0;exact DataW.trod_lt m _ _ _ hm
 obtain⟨dl0,w0,c0⟩:∃ds,NdE.R W W.heap.size a0 len0 ds/\(len0<=cap0/\len0<=maxLen):=by
  obtain⟨fuel,hf⟩:=h0;rcases open_nds hf with hcs|⟨x,l,c,ds,hcs,hl,hm,hr⟩
  · simp[Value.cells]at hcs;obtain⟨rfl,rfl,rfl⟩:=hcs;exact⟨[],Enc.R.nil_,Nat.le_refl _,Nat.zero_le _⟩
  · simp[Value.cells]at hcs;obtain⟨rfl,rfl,rfl⟩:=hcs;exact⟨ds,hr,hl,Nat.le_trans hl hm⟩
 obtain⟨a1,len1,cap1,rfl⟩:=okWide_slice underlying52 (hval 1 52 v1 rfl rfl);have k1:=h1;have lt1:∀x∈p1,x.block<W.heap.size:=by obtain⟨m,hm⟩:=k1;exact DataW.trod_lt m _ _ _ hm
 obtain⟨dl1,w1,c1⟩:∃ds,Dos33E.R W W.heap.size a1 len1 ds/\(len1<=cap1/\len1<=maxLen):=by
  obtain⟨fuel,hf⟩:=h1;rcases open_dos33 hf with hcs|⟨x,l,c,ds,hcs,hl,hm,hr⟩
  · simp[Value.cells]at hcs;obtain⟨rfl,rfl,rfl⟩:=hcs;exact⟨[],Enc.R.nil_,Nat.le_refl _,Nat.zero_le _⟩
  · simp[Value.cells]at hcs;obtain⟨rfl,rfl,rfl⟩:=hcs;exact⟨ds,hr,hl,Nat.le_trans hl hm⟩
 obtain⟨a2,len2,cap2,rfl⟩:=okWide_slice underlying52 (hval 2 52 v2 rfl rfl);have k2:=h2;have lt2:∀x∈p2,x.block<W.heap.size:=by obtain⟨m,hm⟩:=k2;exact DataW.trod_lt m _ _ _ hm
 obtain⟨dl2,w2,c2⟩:∃ds,Dos33E.R W W.heap.size a2 len2 ds/\(len2<=cap2/\len2<=maxLen):=by
  obtain⟨fuel,hf⟩:=h2;rcases open_dos33 hf with hcs|⟨x,l,c,ds,hcs,hl,hm,hr⟩
  · simp[Value.cells]at hcs;obtain⟨rfl,rfl,rfl⟩:=hcs;exact⟨[],Enc.R.nil_,Nat.le_refl _,Nat.zero_le _⟩
  · simp[Value.cells]at hcs;obtain⟨rfl,rfl,rfl⟩:=hcs;exact⟨ds,hr,hl,Nat.le_trans hl hm⟩
 clear hA0 hval0;refine(walk a0 len0 cap0 dl0 a1 len1 cap1 dl1 a2 len2 cap2 dl2 W w0 c0 w1 c1 w2 c2).mono fun e W' ⟨he,bel⟩=>?_
 subst he;exact⟨_,rfl,_,_,_,[],_,[],hW',trodAll_mk1 (shut_bool underlying4 _),(trodAll_cons_mk (Below.trod laidOut (by kernel_rfl) (of_decide_eq_true (by kernel_rfl)) k0 bel lt0) (trodAll_cons_mk (Below.trod laidOut (by kernel_rfl) (of_decide_eq_true (by kernel_rfl)) k1 bel lt1) (trodAll_cons_mk (Below.trod laidOut (by kernel_rfl) (of_decide_eq_true (by kernel_rfl)) k2 bel lt2) trodAll_mk0))),rfl,bel.frame _,fun h=>by cases h⟩
theorem closed:joinedFacts Tryz.pinned.checked.prog 4 Tryz.f4 Rows.expNewSpec Rows.expNewRow=true:=by
 unfold joinedFacts
 repeat' (with_reducible refine(Bool.and_eq_true _ _).mpr ⟨?_,?_⟩)
 all_goals as_aux_lemma=>kernel_rfl
theorem over:Rows.expNewRow.holds Tryz.pinned (OpenSpec.ofChange Rows.expNewSpec):=
 OpenClaim.holds_of_wide 4 Tryz.f4 rfl rfl rfl rfl rfl rfl rfl ⟨rfl,rfl,rfl,rfl,rfl⟩ rfl rfl rfl rfl rfl (by kernel_rfl) func4 closed
  (of_decide_eq_true (by kernel_rfl)) (by unfold Func.isWrapper;first|(rw[if_pos (by decide +kernel)];kernel_rfl)|(rw[if_neg (by decide +kernel)];exact⟨rfl,rfl⟩))
  (fun os started H enc _=>lifted os started H enc)
theorem proved:Rows.ExpNewSaid:=over
#print axioms proved
end Go.Proofs.YtiknkbpojmgbhaaGreat.expNew
