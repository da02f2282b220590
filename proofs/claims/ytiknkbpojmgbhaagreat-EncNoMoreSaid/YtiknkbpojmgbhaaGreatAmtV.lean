/- LinP, AmtV. Conditions: in each theorem. -/
import Derived.Test.YtiknkbpojmgbhaaGreatBase
import Derived.Test.YtiknkbpojmgbhaaGreatIntApp
set_option maxHeartbeats 800000
set_option maxRecDepth 100000
set_option linter.unusedVariables false
open Go.Proofs.Tryz
namespace Go.Proofs.YtiknkbpojmgbhaaGreat
structure Ln where
 f:Int
 o:Int
 n:Int
 a:Int
def B64(x:Int):Prop:=-9223372036854775808<=x/\x<=9223372036854775807
def Za7(x:Ln):Prop:=B64 x.f/\B64 x.o/\B64 x.n/\B64 x.a
abbrev FL:=List (Int×Int)
def ZeM:FL->Int->Int->FL
 | [],f,a=>[(f,a)]
 | p::r,f,a=>if p.1<f then p::ZeM r f a else if p.1=f then(f,IntKind.i64.wrap (p.2+a))::r else(f,a)::p::r
def fundsOf(l:List Ln):FL:=l.foldl (fun out x=>ZeM out x.f x.a) []
def lookF:FL->Int->Option Int
 | [],_=>none
 | p::r,f=>if p.1=f then some p.2 else lookF r f
def Zc1(L:FL):Prop:=L.Pairwise (fun p q=>p.1<q.1)
theorem Zh0{x y:Int}(h:(x-y)%18446744073709551616=0):IntKind.i64.wrap x=IntKind.i64.wrap y:=by simp only[IntKind.wrap_i64];omega
theorem Zb3(x:Int):(IntKind.i64.wrap x-x)%18446744073709551616=0:=by simp only[IntKind.wrap_i64];omega
theorem ZdJ(x:Int):B64 (IntKind.i64.wrap x):=by unfold B64;simp only[IntKind.wrap_i64];omega
theorem ZmK{x:Int}(h:B64 x):IntKind.i64.wrap x=x:=by unfold B64 at h;simp only[IntKind.wrap_i64];omega
theorem addF_keys:∀(L:FL) (f a:Int) (p:Int×Int),p∈ZeM L f a->p.1=f∨∃q∈L,q.1=p.1
 | [],f,a,p,h=>.inl (by obtain rfl:=List.mem_singleton.1 h;rfl)
 | q::r,f,a,p,h=>by
  unfold ZeM at h
  split at h
  · rcases List.mem_cons.1 h with rfl|h
    · exact .inr ⟨p,List.mem_cons_self ..,rfl⟩
    · rcases addF_keys r f a p h with e|⟨q',hq,e⟩
      · exact .inl e
      · exact .inr ⟨q',List.mem_cons_of_mem _ hq,e⟩
  · split at h
    · rcases List.mem_cons.1 h with rfl|h
      · exact .inl rfl
      · exact .inr ⟨p,List.mem_cons_of_mem _ h,rfl⟩
    · rcases List.mem_cons.1 h with rfl|h
      · exact .inl rfl
      · exact .inr ⟨p,h,rfl⟩
theorem Zh1:∀{L:FL} (f a:Int),Zc1 L->Zc1 (ZeM L f a)
 | [],f,a,_=>List.pairwise_singleton _ _
 | q::r,f,a,h=>by
  obtain⟨h1,h2⟩:=List.pairwise_cons.1 h;unfold ZeM;split
  · rename_i hlt
    refine List.pairwise_cons.2 ⟨fun p hp=>?_,Zh1 f a h2⟩;rcases addF_keys r f a p hp with e|⟨q',hq,e⟩
    · rw[e];exact hlt
    · rw[<-e];exact h1 q' hq
  · split
    · rename_i e
      exact List.pairwise_cons.2 ⟨fun p hp=>by rw[<-e];exact h1 p hp,h2⟩
    · rename_i n1 n2
      refine List.pairwise_cons.2 ⟨fun p hp=>?_,h⟩;rcases List.mem_cons.1 hp with rfl|hp
      · show f<p.1;omega
      · have:=h1 p hp;show f<p.1;omega
theorem ZgS:∀{L:FL} {f:Int},(∀p∈L,f<p.1)->lookF L f=none
 | [],f,_=>rfl
 | q::r,f,h=>by
  unfold lookF
  have:=h q (List.mem_cons_self ..)
  rw[if_neg (by omega)];exact ZgS fun p hp=>h p (List.mem_cons_of_mem _ hp)
theorem ZeN:∀{L:FL} (f a g:Int),Zc1 L->B64 a->lookF (ZeM L f a) g=if g=f then some (IntKind.i64.wrap ((lookF L f).getD 0+a))else lookF L g
 | [],f,a,g,_,ha=>by
  unfold ZeM lookF;by_cases e:g=f
  · rw[if_pos e.symm,if_pos e];show some a=some (IntKind.i64.wrap (0+a));rw[Int.zero_add,ZmK ha]
  · rw[if_neg (fun h=>e h.symm),if_neg e];rfl
 | q::r,f,a,g,h,ha=>by
  obtain⟨h1,h2⟩:=List.pairwise_cons.1 h;have ih:=ZeN (L:=r) f a g h2 ha;unfold ZeM;split
  · rename_i hlt
    rw[lookF,ih];by_cases e:g=f
    · rw[if_neg (by omega),if_pos e,if_pos e,lookF,if_neg (by omega)]
    · rw[if_neg e,if_neg e,lookF]
  · split
    · rename_i e0
      rw[lookF];by_cases e:g=f
      · rw[if_pos e.symm,if_pos e,lookF,if_pos e0];rfl
      · rw[if_neg (fun h=>e h.symm),if_neg e,lookF,if_neg (fun h=>e (by omega))]
    · rename_i n1 n2
      rw[lookF];by_cases e:g=f
      · rw[if_pos e.symm,if_pos e,lookF,if_neg n2,ZgS (fun p hp=>by have:=h1 p hp;omega)];show some a=some (IntKind.i64.wrap (0+a));rw[Int.zero_add,ZmK ha]
      · rw[if_neg (fun h=>e h.symm),if_neg e]
theorem ZeO:∀{L:FL} {f s:Int},lookF L f=some s->(f,s)∈L
 | [],f,s,h=>by cases h
 | q::r,f,s,h=>by
  unfold lookF at h
  split at h
  · rename_i e
    cases h;rw[<-e];exact List.mem_cons_self ..
  · exact List.mem_cons_of_mem _ (ZeO h)
theorem Zc1.look:∀{L:FL} {p:Int×Int},Zc1 L->p∈L->lookF L p.1=some p.2
 | q::r,p,h,hp=>by
  obtain⟨h1,h2⟩:=List.pairwise_cons.1 h;unfold lookF;rcases List.mem_cons.1 hp with rfl|hp
  · rw[if_pos rfl]
  · have:=h1 p hp
    rw[if_neg (by omega)];exact Zc1.look h2 hp
theorem Zc1.nodup{L:FL}(h:Zc1 L):L.Nodup:=List.nodup_iff_pairwise_ne.2 (h.imp fun {a b} h e=>by rw[e]at h;omega)
theorem ZaN(l:List Ln)(x:Ln):fundsOf (l++[x])=ZeM (fundsOf l) x.f x.a:=by unfold fundsOf;rw[List.foldl_append];rfl
theorem Zb4{P:List Ln->Prop}(h0:P [])(h1:∀l x,P l->P (l++[x]))(l:List Ln):P l:=by
 have:∀n (l:List Ln),l.length=n->P l:=by
  intro n
  induction n with
  | zero=>intro l hl;obtain rfl:=List.eq_nil_of_length_eq_zero hl;exact h0
  | succ n ih=>
   intro l hl;have hne:l≠[]:=fun e=>by rw[e]at hl;cases hl
   rw[<-List.dropLast_concat_getLast hne];exact h1 _ _ (ih _ (by rw[List.length_dropLast];omega))
 exact this _ l rfl
theorem Zba(l:List Ln):Zc1 (fundsOf l):=Zb4 (P:=fun l=>Zc1 (fundsOf l)) List.Pairwise.nil (fun l x h=>by rw[ZaN];exact Zh1 _ _ h) l
theorem ZkP:∀(L:FL) (f a:Int),(ZeM L f a).length<=L.length+1
 | [],f,a=>Nat.le_refl _
 | q::r,f,a=>by
  have:=ZkP r f a
  unfold ZeM;split
  · rw[List.length_cons,List.length_cons];omega
  · split
    · simp only[List.length_cons];omega
    · simp only[List.length_cons];omega
theorem Zah(l:List Ln):(fundsOf l).length<=l.length:=Zb4 (P:=fun l=>(fundsOf l).length<=l.length) (Nat.le_refl _) (fun l x h=>by
 rw[ZaN,List.length_append]
 have:=ZkP (fundsOf l) x.f x.a
 show _<=l.length+1
 omega) l
def ZaD(l:List Ln)(g:Int):Int:=((l.filter fun x=>x.f == g).map Ln.a).sum
theorem Zag(l m:List Ln)(g:Int):ZaD (l++m) g=ZaD l g+ZaD m g:=by unfold ZaD;rw[List.filter_append,List.map_append,List.sum_append]
theorem Zbb(x:Ln)(g:Int):ZaD [x] g=if x.f=g then x.a else 0:=by
 unfold ZaD;by_cases e:x.f=g
 · rw[if_pos e,List.filter_cons,if_pos (by simpa using e)];simp
 · rw[if_neg e,List.filter_cons,if_neg (by simpa using e)];rfl
theorem Zd8(l:List Ln)(hl:∀x∈l,Za7 x)(g:Int):lookF (fundsOf l) g=if l.any (fun x=>x.f == g)then some (IntKind.i64.wrap (ZaD l g))else none:=by
 revert hl
 refine Zb4 (P:=fun l=>(∀x∈l,Za7 x)->lookF (fundsOf l) g=if l.any (fun x=>x.f == g)then some (IntKind.i64.wrap (ZaD l g))else none) (fun _=>rfl) (fun l x ih hl=>?_) l;have ih:=ih fun y hy=>hl y (List.mem_append_left _ hy)
 rw[ZaN,ZeN _ _ _ (Zba l) (hl x (by simp)).2.2.2,List.any_append,Zag,Zbb];by_cases e:g=x.f
 · subst e;rw[if_pos rfl,if_pos rfl,ih];have h1:([x].any fun y=>y.f == x.f)=true:=by simp
   rw[h1,Bool.or_true,if_pos rfl];split
   · congr 1
     exact Zh0 (by have:=Zb3 (ZaD l x.f);simp only[Option.getD_some];omega)
   · rename_i hn
     have:ZaD l x.f=0:=by
      unfold ZaD;rw[List.filter_eq_nil_iff.2 (fun y hy h=>hn (List.any_eq_true.2 ⟨y,hy,h⟩))];rfl
     rw[this];rfl
 · rw[if_neg e,if_neg (show ¬x.f=g from fun h=>e h.symm),ih];have h1:([x].any fun y=>y.f == g)=false:=by simpa using fun h=>e h.symm
   rw[h1,Bool.or_false,Int.add_zero]
theorem ZaO(l:List Ln)(hl:∀x∈l,Za7 x):∀p∈fundsOf l,B64 p.1/\B64 p.2:=by
 intro p hp;have h1:=(Zba l).look hp;rw[Zd8 l hl]at h1
 split at h1
 · rename_i h2
   obtain⟨x,hx,e⟩:=List.any_eq_true.1 h2;injection h1 with h1;exact⟨by rw[<-eq_of_beq e];exact(hl x hx).1,by rw[<-h1];exact ZdJ _⟩
 · cases h1
def ZeP(s:Int):Int:=if 0<s then 2900 else 1900
def Zlx(p:Int×Int):Option Ln:=if p.2=0 then none else some ⟨p.1,ZeP p.2,0,IntKind.i64.wrap (-p.2)⟩
def balL(L:FL):List Ln:=L.filterMap Zlx
def ZT(p:Int×Int):Ln:=⟨p.1,0,0,p.2⟩
theorem ZpW(L:FL)(h:Zc1 L)(g:Int):(ZaD (balL L) g+(lookF L g).getD 0)%18446744073709551616=0:=by
 induction L with
 | nil=>rfl
 | cons p r ih=>
  obtain⟨h1,h2⟩:=List.pairwise_cons.1 h;have ih:=ih h2
  have hsplit:ZaD (balL (p::r)) g=(if p.1=g then(if p.2=0 then 0 else IntKind.i64.wrap (-p.2))else 0)+ZaD (balL r) g:=by
   unfold balL;rw[List.filterMap_cons];unfold Zlx;by_cases e:p.2=0
   · rw[if_pos e,if_pos e];show ZaD _ _=_;simp
   · rw[if_neg e,if_neg e];show ZaD ([_]++_) g=_;rw[Zag,Zbb]
  rw[hsplit,lookF];by_cases e:p.1=g
  · have hn:lookF r g=none:=ZgS fun q hq=>by have:=h1 q hq;omega
    rw[hn]at ih;rw[if_pos e,if_pos e];simp only[Option.getD_none,Option.getD_some]at ih ⊢;split
    · omega
    · have:=Zb3 (-p.2);omega
  · rw[if_neg e,if_neg e];omega
theorem ZdK{L:FL}(h:∀p∈L,B64 p.1/\B64 p.2):∀x∈balL L,Za7 x:=by
 intro x hx;obtain⟨p,hp,e⟩:=List.mem_filterMap.1 hx;unfold Zlx at e
 split at e
 · cases e
 · cases e;refine⟨(h p hp).1,?_,by show B64 0;unfold B64;omega,ZdJ _⟩;show B64 (ZeP p.2);unfold ZeP B64
   split <;> omega
theorem Zb5(L:FL):(balL L).length<=L.length:=List.length_filterMap_le _ _
def ZaU(l:List Ln):Int:=(l.map Ln.a).sum
theorem ZkQ:∀(L:FL) (f a:Int),(((ZeM L f a).map Prod.snd).sum-((L.map Prod.snd).sum+a))%18446744073709551616=0
 | [],f,a=>by unfold ZeM;simp
 | q::r,f,a=>by
  have ih:=ZkQ r f a;unfold ZeM;split
  · simp only[List.map_cons,List.sum_cons];omega
  · split
    · simp only[List.map_cons,List.sum_cons];have:=Zb3 (q.2+a);omega
    · simp only[List.map_cons,List.sum_cons];omega
theorem ZjE(l:List Ln):(((fundsOf l).map Prod.snd).sum-ZaU l)%18446744073709551616=0:=by
 refine Zb4 (P:=fun l=>(((fundsOf l).map Prod.snd).sum-ZaU l)%18446744073709551616=0) rfl (fun l x ih=>?_) l;have h1:=ZkQ (fundsOf l) x.f x.a;have h2:ZaU (l++[x])=ZaU l+x.a:=by unfold ZaU;simp
 rw[ZaN,h2];omega
theorem ZkR:∀(L:FL),(ZaU (balL L)+(L.map Prod.snd).sum)%18446744073709551616=0
 | []=>rfl
 | p::r=>by
  have ih:=ZkR r
  have:ZaU (balL (p::r))=(if p.2=0 then 0 else IntKind.i64.wrap (-p.2))+ZaU (balL r):=by
   unfold balL;rw[List.filterMap_cons];unfold Zlx;by_cases e:p.2=0
   · rw[if_pos e,if_pos e];simp
   · rw[if_neg e,if_neg e];unfold ZaU;rw[List.map_cons,List.sum_cons]
  rw[this,List.map_cons,List.sum_cons];split
  · omega
  · have:=Zb3 (-p.2);omega
theorem ZjF{l:List Ln}(h:ZaU l%18446744073709551616=0):ZaU (balL (fundsOf l))%18446744073709551616=0:=by
 have h1:=ZjE l;have h2:=ZkR (fundsOf l);omega
end Go.Proofs.YtiknkbpojmgbhaaGreat
namespace Go.Proofs.YtiknkbpojmgbhaaGreat
open Go.RowKit
def ZU(n:Int):Bool:=decide (-4611686018427387904<=n)&&decide (n<=4611686018427387904)
def amtRightB(n:Int):Bool:=decide (1<=n)&&decide (n<=9007199254740992)
def amtAddR(a b:Int):Int×Int:=if(ZU a&&ZU b&&ZU (a+b))=true then(a+b,0)else(0,9)
theorem Za1(n:Int):ZU n=true↔-4611686018427387904<=n/\n<=4611686018427387904:=by simp[ZU]
theorem Zai(a:Int)(w:World):Calls prog 310 #[.int .i64 a] w fun e w'=>e=.returned (.bool (ZU a))/\w=w':=by
 unfold ZU;by_cases h : -4611686018427387904<=a
 · go_enter func310,ntmps310;go_wp2;go_ret;simp[h]
 · go_enter func310,ntmps310;go_wp2;go_ret;simp;omega
theorem Zh2(a:Int)(w:World):Calls prog 161 #[.int .i64 a] w fun e w'=>e=.returned (.bool (amtRightB a))/\w=w':=by
 unfold amtRightB;by_cases h:1<=a
 · go_enter func161,ntmps161;go_wp2;go_ret;simp[h]
 · go_enter func161,ntmps161;go_wp2;go_ret;simp;omega
theorem Zh3{a b:Int}(ha:ZU a=true)(hb:ZU b=true):ZU (IntKind.i64.wrap (a+b))=ZU (a+b)/\(ZU (a+b)=true->IntKind.i64.wrap (a+b)=a+b):=by
 rw[Za1]at ha hb
 have hw:IntKind.i64.wrap (a+b)=a+b∨(a+b=9223372036854775808/\IntKind.i64.wrap (a+b) = -9223372036854775808):=by
  rw[IntKind.wrap_i64];omega
 rcases hw with e|⟨e,f⟩
 · rw[e];exact⟨rfl,fun _=>rfl⟩
 · rw[f,e];exact⟨by decide,by decide⟩
theorem Zly(a b:Int)(w:World):Calls prog 300 #[.int .i64 a,.int .i64 b] w fun e w'=>e=.returned (.tuple #[.int .i64 (amtAddR a b).1,.int .i64 (amtAddR a b).2])/\w=w':=by
 unfold amtAddR
 cases ha:ZU a
 · simp only[Bool.false_and,Bool.false_eq_true,if_false];go_enter func300,ntmps300
   go_wp2_with (refine(Zai _ _).mono ?_;rw[ha];rintro e w' ⟨rfl,rfl⟩)
   go_ret2;exact⟨rfl,rfl⟩
 · cases hb:ZU b
   · simp only[Bool.false_and,Bool.and_false,Bool.false_eq_true,if_false];go_enter func300,ntmps300;go_wp2_with fail;refine(Zai _ _).mono ?_;rw[ha];rintro e w' ⟨rfl,rfl⟩;go_wp2_with fail;refine(Zai _ _).mono ?_;rw[hb];rintro e w' ⟨rfl,rfl⟩;go_wp2_with fail;go_ret2;exact⟨rfl,rfl⟩
   · obtain⟨hw,hv⟩:=Zh3 ha hb;obtain⟨s,hs⟩:∃s,IntKind.i64.wrap (a+b)=s:=⟨_,rfl⟩
     rw[hs]at hw hv
     cases hc:ZU (a+b)
     · rw[hc]at hw;clear hv;simp only[Bool.and_false,Bool.false_eq_true,if_false];go_enter func300,ntmps300;go_wp2_with fail;refine(Zai _ _).mono ?_;rw[ha];rintro e w' ⟨rfl,rfl⟩;go_wp2_with fail;refine(Zai _ _).mono ?_;rw[hb];rintro e w' ⟨rfl,rfl⟩;go_wp2_with fail;refine(Zai _ _).mono ?_;rw[hw];rintro e w' ⟨rfl,rfl⟩;go_wp2_with fail;go_ret2;exact⟨rfl,rfl⟩
     · rw[hc]at hw;obtain rfl:s=a+b:=hv hc;clear hv;simp only[Bool.and_self,if_true];go_enter func300,ntmps300;go_wp2_with fail;refine(Zai _ _).mono ?_;rw[ha];rintro e w' ⟨rfl,rfl⟩;go_wp2_with fail;refine(Zai _ _).mono ?_;rw[hb];rintro e w' ⟨rfl,rfl⟩;go_wp2_with fail;refine(Zai _ _).mono ?_;rw[hw];rintro e w' ⟨rfl,rfl⟩;go_wp2_with fail;go_ret2;exact⟨rfl,rfl⟩
end Go.Proofs.YtiknkbpojmgbhaaGreat
