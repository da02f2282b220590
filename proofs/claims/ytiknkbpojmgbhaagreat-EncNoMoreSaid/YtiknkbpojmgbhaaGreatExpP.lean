/- TriP, EntP, ExpP. Conditions: in each theorem. -/
import Derived.Test.YtiknkbpojmgbhaaGreatBalB
import Derived.Test.YtiknkbpojmgbhaaGreatAmtV
import Derived.Test.YtiknkbpojmgbhaaGreatRecA
import Derived.Test.YtiknkbpojmgbhaaGreatYrB
import Derived.Test.YtiknkbpojmgbhaaGreatPreO
set_option maxRecDepth 100000
set_option linter.unusedVariables false
namespace Go.Proofs.YtiknkbpojmgbhaaGreat
open Go.RowKit Go.Maps
def Zbd(p:Int->Int->Bool)(L:List Ln):Int:=((L.filter fun x=>p x.f x.o).map Ln.a).sum
theorem Zej(p:Int->Int->Bool)(L M:List Ln):Zbd p (L++M)=Zbd p L+Zbd p M:=by
 unfold Zbd;rw[List.filter_append,List.map_append,List.sum_append]
theorem Zap(p:Int->Int->Bool)(x:Ln)(L:List Ln):Zbd p (x::L)=(if p x.f x.o then x.a else 0)+Zbd p L:=by
 unfold Zbd;rw[List.filter_cons]
 split <;> simp
theorem Ziu(p:Int->Int->Bool):Zbd p []=0:=rfl
theorem ZdR(x:Ln)(L:List Ln)(g:Int):ZaD (x::L) g=(if x.f=g then x.a else 0)+ZaD L g:=by
 rw[show x::L = [x]++L from rfl,Zag,Zbb]
theorem Zge(p:Int->Bool)(f:Int):∀(L:List Ln),Zbd (fun g _=>p g) L=Zbd (fun g _=>p g) (L.filter fun x=>x.f != f)+if p f then ZaD L f else 0
 | []=>by simp[Zbd,ZaD]
 | x::r=>by
  have ih:=Zge p f r;rw[Zap,ZdR];by_cases e:x.f=f
  · rw[List.filter_cons_of_neg (by simp[e]),if_pos e,ih,e]
    split <;> omega
  · rw[List.filter_cons_of_pos (by simp[e]),Zap,if_neg e,ih]
    split <;> split <;> omega
theorem Zgf(f g:Int):∀(L:List Ln),ZaD (L.filter fun x=>x.f != f) g=if g=f then 0 else ZaD L g
 | []=>by simp[ZaD]
 | x::r=>by
  have ih:=Zgf f g r;rw[ZdR];by_cases e:x.f=f
  · rw[List.filter_cons_of_neg (by simp[e]),ih,e];by_cases e2:g=f
    · rw[if_pos e2,if_pos e2]
    · rw[if_neg e2,if_neg e2,if_neg (fun h=>e2 h.symm)];omega
  · rw[List.filter_cons_of_pos (by simp[e]),ZdR,ih];by_cases e2:g=f
    · rw[if_pos e2,if_pos e2,if_neg (by rw[e2];exact e)];rfl
    · rw[if_neg e2,if_neg e2]
theorem Ziv(p:Int->Bool):∀(n:Nat) (L:List Ln),L.length<=n->(∀f,ZaD L f%18446744073709551616=0)->Zbd (fun g _=>p g) L%18446744073709551616=0
 | 0,L,hn,h=>by
  obtain rfl:=List.eq_nil_of_length_eq_zero (Nat.le_zero.1 hn);rfl
 | n+1,[],hn,h=>rfl
 | n+1,x::r,hn,h=>by
  have ih:=Ziv p n ((x::r).filter fun y=>y.f != x.f) (by
   rw[List.filter_cons,if_neg (by simp)]
   have:=List.length_filter_le (fun y:Ln=>y.f != x.f) r
   rw[List.length_cons]at hn
   omega) (fun f=>by
   rw[Zgf];split
   · rfl
   · exact h f)
  rw[Zge p x.f]
  have:=h x.f
  split <;> omega
theorem Znk(l:List Ln)(hl:∀x∈l,Za7 x)(f:Int):ZaD (l++balL (fundsOf l)) f%18446744073709551616=0:=by
 have h2:=ZpW (fundsOf l) (Zba l) f;rw[Zd8 l hl]at h2;rw[Zag]
 split at h2
 · have:=Zb3 (ZaD l f);simp only[Option.getD_some]at h2;omega
 · rename_i hn
   have:ZaD l f=0:=by
    unfold ZaD;rw[List.filter_eq_nil_iff.2 (fun y hy h=>hn (List.any_eq_true.2 ⟨y,hy,h⟩))];rfl
   simp only[Option.getD_none]at h2;omega
def ZoX(o:Int):Bool:=o == 1900||o == 2900
theorem ZoY(L:FL):∀x∈balL L,ZoX (Zn x.o)=true:=by
 intro x hx;obtain⟨p,hp,e⟩:=List.mem_filterMap.1 hx;unfold Zlx at e
 split at e
 · cases e
 · cases e;show ZoX (Zn (ZeP p.2))=true;unfold ZeP
   split <;> decide
theorem Ziw{q:Int->Int->Bool}:∀{L:List Ln},(∀x∈L,q x.f x.o=true)->Zbd q L=ZaU L
 | [],_=>rfl
 | x::r,h=>by
  rw[Zap,if_pos (h x List.mem_cons_self),Ziw fun y hy=>h y (List.mem_cons_of_mem _ hy)];unfold ZaU;simp
theorem Zgg{q:Int->Int->Bool}:∀{L:List Ln},(∀x∈L,q x.f x.o=false)->Zbd q L=0
 | [],_=>rfl
 | x::r,h=>by
  rw[Zap,if_neg (by rw[h x List.mem_cons_self];decide),Zgg fun y hy=>h y (List.mem_cons_of_mem _ hy)];rfl
theorem Zp7{l:List Ln}(hz:ZaU l%18446744073709551616=0)(hd:∀x∈l,ZoX (Zn x.o)=false):Zbd (fun _ o=>ZoX (Zn o)) (l++balL (fundsOf l))%18446744073709551616=0:=by
 rw[Zej,Zgg hd,Ziw (ZoY _)]
 have:=ZjF hz
 omega
theorem ZoZ{o:Int}(h1:o≠1900)(h2:o≠2900):ZoX (Zn o)=false:=by
 unfold ZoX Zn;simp;omega
def wtP(p:Int->Int->Bool)(y:Int)(q:Txt×List Int):Int:=if(tx (Zi 66 [y])).isPrefixOf q.1 then(match lineK (Zaq q)with
 | some l=>if p l.f l.o then l.a else 0
 | none=>0)else 0
def Zch(p:Int->Int->Bool)(y:Int)(L:TL):Int:=(L.map (wtP p y)).sum
theorem Zix(p:Int->Int->Bool)(y:Int)(S:VS):Zbd p (Zas ((S.scan (tx (Zi 66 [y]))).map Zaq))=Zch p y S.nowL:=by
 unfold VS.scan Zch Zas;generalize S.nowL=L
 induction L with
 | nil=>rfl
 | cons q r ih=>
  rw[List.map_cons,List.sum_cons]
  have e1:wtP p y q=if(tx (Zi 66 [y])).isPrefixOf q.1 then(match lineK (Zaq q)with
   | some l=>if p l.f l.o then l.a else 0
   | none=>0)else 0:=rfl
  rw[e1,<-ih];by_cases h:(tx (Zi 66 [y])).isPrefixOf q.1=true
  · rw[List.filter_cons_of_pos (p:=fun p:Txt×List Int=>List.isPrefixOf (tx (Zi 66 [y])) p.1) h,if_pos h,List.map_cons,List.filterMap_cons]
    cases e:lineK (Zaq q)with
    | none=>simp
    | some l=>simp only[Zap]
  · rw[List.filter_cons_of_neg (p:=fun p:Txt×List Int=>List.isPrefixOf (tx (Zi 66 [y])) p.1) h,if_neg h,Int.zero_add]
theorem Zhc(p:Int->Int->Bool)(y:Int)(x:Txt)(v:List Int):∀{L:TL},ZG L->Zch p y (Zaw L x v)=Zch p y L-(match Zf L x with
 | some o=>wtP p y (x,o)
 | none=>0)+wtP p y (x,v)
 | [],_=>by simp[Zch,Zaw,Zf]
 | q::r,h=>by
  have ih:=Zhc p y x v h.tail;rw[Zb2];unfold Zaw;split
  · rename_i hlt
    rw[if_neg (fun e=>by rw[e]at hlt;exact ZC _ hlt)];show wtP p y q+Zch p y (Zaw r x v)=wtP p y q+Zch p y r-_+_;rw[ih];omega
  · split
    · rename_i e
      obtain⟨k,o⟩:=q;obtain rfl:k=x:=e;show wtP p y (k,v)+Zch p y r=wtP p y (k,o)+Zch p y r-wtP p y (k,o)+wtP p y (k,v);omega
    · rename_i n1 n2
      have hnone:Zf r x=none:=ZO.2 fun q' hq e=>by
       have:=h.head q' hq
       rw[e]at this;exact n1 this
      rw[hnone];show wtP p y (x,v)+(wtP p y q+Zch p y r)=wtP p y q+Zch p y r-0+wtP p y (x,v);omega
theorem Zk3(p:Int->Int->Bool)(y:Int)(x:Txt):∀{L:TL},ZG L->Zch p y (ZbE L x)=Zch p y L-(match Zf L x with
 | some o=>wtP p y (x,o)
 | none=>0)
 | [],_=>by simp[Zch,ZbE,Zf]
 | q::r,h=>by
  have ih:=Zk3 p y x h.tail;rw[Zb2];show Zch p y (List.filter _ (q::r))=_;rw[List.filter_cons];by_cases e:q.1=x
  · rw[if_neg (by simpa using e),if_pos e]
    have hnone:Zf r x=none:=ZO.2 fun q' hq e'=>by
     have:=h.head q' hq
     rw[e,e']at this;exact ZC _ this
    have e2:r.filter (fun p=>decide (p.1≠x))=r:=List.filter_eq_self.2 fun q' hq=>by
     simpa using ZO.1 hnone q' hq
    rw[e2];obtain⟨k,o⟩:=q;obtain rfl:k=x:=e;show Zch p y r=wtP p y (k,o)+Zch p y r-wtP p y (k,o);omega
  · rw[if_pos (by simpa using e),if_neg e];show wtP p y q+Zch p y (ZbE r x)=wtP p y q+Zch p y r-_;rw[ih];omega
theorem VS.Ok.nowL_put{S:VS}(h:S.Ok)(x:Txt)(v:List Int):(S.put x v).nowL=Zaw S.nowL x v:=
 ZG.ext (h.put x v).nowL (h.nowL.set x v) fun z=>by rw[(h.put x v).look,h.now_put,Zaf h.nowL,h.look]
theorem VS.Ok.nowL_del{S:VS}(h:S.Ok)(x:Txt):(S.del x).nowL=ZbE S.nowL x:=
 ZG.ext (h.del x).nowL (h.nowL.del x) fun z=>by rw[(h.del x).look,h.now_del,Zbs,h.look]
theorem Zbu(t:Int)(l:List Int)(h:l.length<=7):Zi t l=t::Zj 4 (l.map Zn):=by
 unfold Zi ZdI;rw[List.take_of_length_le h]
theorem Zfe(a b c:Int):Zj 4 [a,b,c]=ZaS a 4++(ZaS b 4++(ZaS c 4++[])):=rfl
theorem Zp8(x:Int):0<=Zn x/\Zn x<4294967296:=by unfold Zn;omega
theorem ZlO(y f o:Int):(tx (Zi 66 [y])).isPrefixOf (bKy y f o)=true:=by
 rw[List.isPrefixOf_iff_prefix];refine⟨tx (ZaS (Zn f) 4++ZaS (Zn o) 4),?_⟩;unfold bKy;rw[Zbu 66 [y] (by simp),Zbu 66 [y,f,o] (by simp)];show tx (66::Zj 4 [Zn y])++_=tx (66::Zj 4 [Zn y,Zn f,Zn o]);rw[Zfe,show Zj 4 [Zn y]=ZaS (Zn y) 4++[]from rfl];unfold tx;simp
theorem Znl(y f o:Int):splitK (Zi 66 [y,f,o])=([Zn y,Zn f,Zn o],66,true):=by
 have e:Zi 66 [y,f,o]=Zi 66 [Zn y,Zn f,Zn o]:=by
  rw[Zbu 66 [y,f,o] (by simp),Zbu 66 [Zn y,Zn f,Zn o] (by simp)];show _::Zj 4 [Zn y,Zn f,Zn o]=_::Zj 4 [Zn (Zn y),Zn (Zn f),Zn (Zn o)];have hh:∀x,Zn (Zn x)=Zn x:=fun x=>by unfold Zn;omega
  rw[hh,hh,hh]
 unfold splitK
 rw[e,Zdu (fun x hx=>by
  simp only[List.mem_cons,List.not_mem_nil,or_false]at hx
  rcases hx with rfl|rfl|rfl <;> exact Zp8 _) (by simp)]
theorem Zo0(y f o:Int)(v:List Int):lineK (Zaq (bKy y f o,v))=if(numB v).2=true then some ⟨Zn f,Zn o,0,(numB v).1⟩ else none:=by
 have hk:(Zaq (bKy y f o,v)).1=Zi 66 [y,f,o]:=by
  show by_ (tx (Zi 66 [y,f,o]))=_;exact ZpG (Zk (by omega) _)
 have hv:(Zaq (bKy y f o,v)).2=v:=rfl;unfold lineK;rw[hk,hv,Znl];rfl
theorem Zp9{v:List Int}(h:(numB v).2=false):(numB v).1=0:=by
 unfold numB at h ⊢
 split
 · rename_i e;rw[if_pos e]at h;cases h
 · rfl
theorem Znm(p:Int->Int->Bool)(y f o:Int)(v:List Int):wtP p y (bKy y f o,v)=if p (Zn f) (Zn o)then seqV (some v)else 0:=by
 unfold wtP;rw[if_pos (ZlO y f o),Zo0];have h1:(numB v).1=seqV (some v):=ZkS (some v)
 cases h:(numB v).2 with
 | true=>rw[if_pos rfl];show(if p (Zn f) (Zn o)then(numB v).1 else 0)=_;rw[h1]
 | false=>
  rw[if_neg (by decide)];rw[Zp9 h]at h1;rw[<-h1]
  show(0:Int)=(if p (Zn f) (Zn o)=true then 0 else 0)
  split <;> rfl
theorem Znn{S:VS}(h:S.Ok)(p:Int->Int->Bool)(y f o:Int){n:Int}(hn:ZoA n):Zch p y (S.setB (bKy y f o) n).nowL=Zch p y S.nowL+if p (Zn f) (Zn o)then n-seqV (S.now (bKy y f o))else 0:=by
 unfold VS.setB
 have h1:(match Zf S.nowL (bKy y f o)with
  | some x=>wtP p y (bKy y f o,x)
  | none=>0)=if p (Zn f) (Zn o)then seqV (S.now (bKy y f o))else 0:=by
  rw[h.look]
  cases S.now (bKy y f o)with
  | none=>
   show(0:Int)=(if p (Zn f) (Zn o)=true then 0 else 0)
   split <;> rfl
  | some x=>exact Znm p y f o x
 split
 · rename_i h0
   rw[h.nowL_del,Zk3 p y _ h.nowL,h1,h0]
   split <;> omega
 · rw[h.nowL_put,Zhc p y _ _ h.nowL,h1,Znm,Zn7 ⟨by have:=hn.1;omega,by have:=hn.2;omega⟩]
   split <;> omega
theorem Zno{S:VS}(h:S.Ok)(p:Int->Int->Bool)(y f o a:Int)(h0:(amtAddR (seqV (S.now (bKy y f o))) a).2=0):Zch p y (S.addB (bKy y f o) a).nowL=Zch p y S.nowL+if p (Zn f) (Zn o)then a else 0:=by
 unfold VS.addB;obtain⟨_,_,h3,h4⟩:=ZdL h0;rw[if_pos h0,h4,Znn h p y f o h3]
 split <;> omega
theorem Ziy(p:Int->Int->Bool)(y:Int){t:Int}(ht:0<=t/\t<256)(h66:t≠66)(l v:List Int):wtP p y (tx (Zi t l),v)=0:=by
 unfold wtP;rw[if_neg];intro h;obtain⟨n,rfl⟩:=Int.eq_ofNat_of_zero_le ht.1;rw[List.isPrefixOf_iff_prefix]at h;obtain⟨r,hr⟩:=h;have h1:(tx (Zi 66 [y])++r)[0]?=some (UInt8.ofNat 66):=rfl;rw[hr]at h1;have h2:(tx (Zi (n:Int) l))[0]?=some (UInt8.ofNat n):=rfl;rw[h2]at h1;have h3:(UInt8.ofNat n).toNat=(UInt8.ofNat 66).toNat:=congrArg UInt8.toNat (Option.some.inj h1);rw[UInt8.toNat_ofNat',UInt8.toNat_ofNat']at h3;omega
theorem ZbS{S:VS}(h:S.Ok)(p:Int->Int->Bool)(y:Int){t:Int}(ht:0<=t/\t<256)(h66:t≠66)(l v:List Int):Zch p y (S.put (tx (Zi t l)) v).nowL=Zch p y S.nowL:=by
 rw[h.nowL_put,Zhc p y _ _ h.nowL,Ziy p y ht h66];split
 · rw[Ziy p y ht h66];omega
 · omega
theorem Zqa{b:List Int}(hb:Zm b)(h1:(splitK b).2.2=true)(h3:(splitK b).1.length=3):∃t x y z,b=Zi t [x,y,z]/\(splitK b).1 = [x,y,z]/\Zpn [x,y,z]/\b[0]?=some t:=by
 unfold splitK Zco at h1 h3 ⊢
 split at h1
 · rename_i hl
   rw[if_pos hl]at h3 ⊢;have h3:(Z0 4 b 1 (b.length/4)).length=3:=h3;rw[ZaJ]at h3;have hl13:b.length=13:=by omega
   rw[show b.length/4=3 by omega]
   match b,hl13 with
   | [t,a0,a1,a2,a3,b0,b1,b2,b3,c0,c1,c2,c3],_=>
    have A:=ZdW (hb a0 (by simp)) (hb a1 (by simp)) (hb a2 (by simp)) (hb a3 (by simp));have B:=ZdW (hb b0 (by simp)) (hb b1 (by simp)) (hb b2 (by simp)) (hb b3 (by simp));have C:=ZdW (hb c0 (by simp)) (hb c1 (by simp)) (hb c2 (by simp)) (hb c3 (by simp))
    have hu:Zpn [numOf [a0,a1,a2,a3],numOf [b0,b1,b2,b3],numOf [c0,c1,c2,c3]]:=fun v hv=>by
     simp only[List.mem_cons,List.not_mem_nil,or_false]at hv;rcases hv with rfl|rfl|rfl
     · exact A.1
     · exact B.1
     · exact C.1
    refine⟨t,numOf [a0,a1,a2,a3],numOf [b0,b1,b2,b3],numOf [c0,c1,c2,c3],?_,rfl,hu,rfl⟩;rw[Zbu t _ (by simp),Zcp hu,Zfe,A.2,B.2,C.2];rfl
 · cases h1
theorem Zk4{S:VS}(h:S.Ok){y:Int}(hy:0<=y/\y<4294967296){q:Txt×List Int}(hq:q∈S.scan (tx (Zi 66 [y]))){l:Ln}(hl:lineK (Zaq q)=some l):q.1=bKy y l.f l.o/\Zpn [y,l.f,l.o]:=by
 have hp:=((Zph h).1 hq).2;unfold lineK at hl
 split at hl
 · rename_i hs
   obtain⟨t,x,f,o,hk,hn,hu,ht⟩:=Zqa (ZhV q.1) hs.1 hs.2
   split at hl
   · obtain rfl:=Option.some.inj hl;have hk':(Zaq q).1=Zi t [x,f,o]:=hk;have hn':(splitK (Zaq q).1).1 = [x,f,o]:=hn;rw[hn'];have hkey:q.1=tx (Zi t [x,f,o]):=by rw[<-hk',show(Zaq q).1=by_ q.1 from rfl,ZfJ]
     rw[hkey,List.isPrefixOf_iff_prefix]at hp;obtain⟨r,hr⟩:=hp
     have tb:0<=t/\t<256:=by
      have:=List.mem_of_getElem? ht
      exact ZhV q.1 t this
     have e5:(Zi t [x,f,o]).take 5=Zi 66 [y]:=by
      have h1:(tx (Zi t [x,f,o])).take 5=tx (Zi 66 [y]):=by
       rw[<-hr,List.take_append_of_le_length (by rw[ZZ,ZgW];omega),List.take_of_length_le (by rw[ZZ,ZgW];omega)]
      rw[Zqt]at h1;exact Zlv (fun z hz=>Zk tb _ z (List.mem_of_mem_take hz)) (Zk (by omega) _) h1
     rw[Zbu t [x,f,o] (by simp),Zbu 66 [y] (by simp),Zcp hu]at e5;have e6:t::((ZaS x 4++(ZaS f 4++(ZaS o 4++[]))).take 4)=66::(ZaS (Zn y) 4++[]):=e5;rw[List.take_append_of_le_length (by rw[Zaj];omega),List.take_of_length_le (by rw[Zaj];omega),List.append_nil]at e6;injection e6 with e7 e8;have hx:=hu x (by simp)
     have e9:x=y:=by
      have h1:=congrArg numOf e8;have hyy:Zn y=y:=by unfold Zn;omega
      rw[hyy,ZqH hx,ZqH hy]at h1;exact h1
     subst e7 e9;exact⟨hkey,hu⟩
   · cases hl
 · cases hl
theorem ZlP{S:VS}(h:S.Ok){y:Int}(hy:0<=y/\y<4294967296):(Zas ((S.scan (tx (Zi 66 [y]))).map Zaq)).Pairwise (fun a b=>a.f<=b.f):=by
 unfold Zas;have hr:ZG (S.scan (tx (Zi 66 [y]))):=h.nowL.filter _;rw[List.pairwise_filterMap,List.pairwise_map];refine hr.imp_of_mem fun {p q} hp hq hpq a ha b hb=>?_
 obtain⟨k1,u1⟩:=Zk4 h hy hp ha;obtain⟨k2,u2⟩:=Zk4 h hy hq hb;rw[k1,k2]at hpq;have h1:=(Zbw _ _).2 hpq;rw[Zpg (by omega) u1 u2 (by simp) (by simp)]at h1;unfold ZqI ZnQ at h1;rw[if_neg (Int.lt_irrefl y),if_neg (Int.lt_irrefl y)]at h1;simp only[ZqI,ZnQ]at h1;by_cases h2:a.f<=b.f
 · exact h2
 · exfalso
   revert h1
   simp[show ¬a.f<b.f by omega,show b.f<a.f by omega]
structure Sm where
 f:Int
 d:Int
 c:Int
def upS(s:Sm)(a:Int):Sm:=if a>0 then⟨s.f,IntKind.i64.wrap (s.d+a),s.c⟩ else⟨s.f,s.d,IntKind.i64.wrap (s.c-a)⟩
def Zbi(acc:List Sm)(l:Ln):List Sm:=match acc.getLast? with
 | some s=>if s.f=l.f then acc.dropLast++[upS s l.a]else acc++[upS ⟨l.f,0,0⟩ l.a]
 | none=>acc++[upS ⟨l.f,0,0⟩ l.a]
def sumsF(L:List Ln):List Sm:=L.foldl Zbi []
theorem Zev(s:Sm)(a:Int):(upS s a).f=s.f:=by unfold upS;split <;> rfl
theorem ZjY(s:Sm)(a k:Int)(h:(s.d-s.c-k)%18446744073709551616=0)(hd:B64 s.d)(hc:B64 s.c):((upS s a).d-(upS s a).c-(k+a))%18446744073709551616=0/\B64 (upS s a).d/\B64 (upS s a).c:=by
 unfold upS;split
 · have:=Zb3 (s.d+a)
   exact⟨by simp only[];omega,ZdJ _,hc⟩
 · have:=Zb3 (s.c-a)
   exact⟨by simp only[];omega,hd,ZdJ _⟩
theorem ZcG(L:List Ln)(x:Ln):sumsF (L++[x])=Zbi (sumsF L) x:=by unfold sumsF;rw[List.foldl_append];rfl
def Znp(L:List Ln)(A:List Sm):Prop:=(∀s∈A,(s.d-s.c-ZaD L s.f)%18446744073709551616=0/\B64 s.d/\B64 s.c)/\A.Pairwise (fun a b=>a.f<b.f)/\(∀x∈L,∃s∈A,s.f=x.f)/\∀s∈A,∃x∈L,x.f=s.f
theorem ZlQ(L:List Ln)(hs:L.Pairwise (fun a b=>a.f<=b.f)):Znp L (sumsF L):=by
 revert hs
 refine Zb4 (P:=fun L=>L.Pairwise (fun a b=>a.f<=b.f)->Znp L (sumsF L)) (fun _=>⟨(fun s h=>by cases h),List.Pairwise.nil,(fun x h=>by cases h),(fun s h=>by cases h)⟩) (fun L x ih hs=>?_) L;obtain⟨p1,_,p3⟩:=List.pairwise_append.1 hs;obtain⟨i1,i2,i3,i4⟩:=ih p1;rw[ZcG];generalize sumsF L=A at i1 i2 i3 i4;have zz:B64 0:=by unfold B64;omega
 rcases List.eq_nil_or_concat A with rfl|⟨A0,s,rfl⟩
 · obtain rfl:L = []:=List.eq_nil_iff_forall_not_mem.2 fun z hz=>by obtain⟨s,hs,_⟩:=i3 z hz;cases hs
   show Znp [x] [upS ⟨x.f,0,0⟩ x.a];obtain⟨u1,u2,u3⟩:=ZjY ⟨x.f,0,0⟩ x.a 0 rfl zz zz;refine⟨fun s hs=>?_,List.pairwise_singleton _ _,fun z hz=>⟨_,List.mem_cons_self,?_⟩,fun s hs=>⟨x,List.mem_cons_self,?_⟩⟩
   · obtain rfl:=List.mem_singleton.1 hs;rw[Zev,Zbb,if_pos rfl];rw[Int.zero_add]at u1;exact⟨u1,u2,u3⟩
   · obtain rfl:=List.mem_singleton.1 hz;rw[Zev]
   · obtain rfl:=List.mem_singleton.1 hs;rw[Zev]
 · have hst:Zbi (A0++[s]) x=if s.f=x.f then A0++[upS s x.a]else A0++[s]++[upS ⟨x.f,0,0⟩ x.a]:=by
    unfold Zbi;rw[List.getLast?_append,List.getLast?_singleton,List.dropLast_concat];rfl
   rw[List.concat_eq_append,hst];rw[List.concat_eq_append]at i1 i2 i3 i4;obtain⟨j1,_,j3⟩:=List.pairwise_append.1 i2;obtain⟨z0,hz0,ez0⟩:=i4 s (by simp);have hsx:s.f<=x.f:=by rw[<-ez0];exact p3 z0 hz0 x List.mem_cons_self
   by_cases e:s.f=x.f
   · rw[if_pos e];obtain⟨h1,h2,h3⟩:=i1 s (by simp);obtain⟨u1,u2,u3⟩:=ZjY s x.a (ZaD L s.f) h1 h2 h3;refine⟨fun t ht=>?_,List.pairwise_append.2 ⟨j1,List.pairwise_singleton _ _,fun a ha b hb=>by obtain rfl:=List.mem_singleton.1 hb;rw[Zev];exact j3 a ha s List.mem_cons_self⟩,fun z hz=>?_,fun t ht=>?_⟩
     · rcases List.mem_append.1 ht with ht|ht
       · have hlt:=j3 t ht s List.mem_cons_self;rw[Zag,Zbb,if_neg (by omega),Int.add_zero];exact i1 t (List.mem_append_left _ ht)
       · obtain rfl:=List.mem_singleton.1 ht;rw[Zev,Zag,Zbb,if_pos e.symm];exact⟨u1,u2,u3⟩
     · rcases List.mem_append.1 hz with hz|hz
       · obtain⟨t,ht,et⟩:=i3 z hz;rcases List.mem_append.1 ht with ht|ht
         · exact⟨t,List.mem_append_left _ ht,et⟩
         · obtain rfl:=List.mem_singleton.1 ht;exact⟨upS t x.a,by simp,by rw[Zev];exact et⟩
       · obtain rfl:=List.mem_singleton.1 hz;exact⟨upS s z.a,by simp,by rw[Zev];exact e⟩
     · rcases List.mem_append.1 ht with ht|ht
       · obtain⟨z,hz,ez⟩:=i4 t (List.mem_append_left _ ht);exact⟨z,List.mem_append_left _ hz,ez⟩
       · obtain rfl:=List.mem_singleton.1 ht;exact⟨x,by simp,by rw[Zev];exact e.symm⟩
   · rw[if_neg e]
     have hlt:∀t∈A0++[s],t.f<x.f:=fun t ht=>by
      rcases List.mem_append.1 ht with ht|ht
      · have:=j3 t ht s List.mem_cons_self;omega
      · obtain rfl:=List.mem_singleton.1 ht;omega
     have hz:ZaD L x.f=0:=by
      unfold ZaD
      rw[List.filter_eq_nil_iff.2 (fun z hz h=>by
       obtain⟨t,ht,et⟩:=i3 z hz
       have:=hlt t ht
       have:z.f=x.f:=by simpa using h
       omega)]
      rfl
     obtain⟨u1,u2,u3⟩:=ZjY ⟨x.f,0,0⟩ x.a 0 rfl zz zz;refine⟨fun t ht=>?_,List.pairwise_append.2 ⟨i2,List.pairwise_singleton _ _,fun a ha b hb=>by obtain rfl:=List.mem_singleton.1 hb;rw[Zev];exact hlt a ha⟩,fun z hz=>?_,fun t ht=>?_⟩
     · rcases List.mem_append.1 ht with ht|ht
       · have:=hlt t ht
         rw[Zag,Zbb,if_neg (by omega),Int.add_zero];exact i1 t ht
       · obtain rfl:=List.mem_singleton.1 ht;rw[Zev,Zag,Zbb,if_pos rfl,hz];exact⟨u1,u2,u3⟩
     · rcases List.mem_append.1 hz with hz|hz
       · obtain⟨t,ht,et⟩:=i3 z hz;exact⟨t,List.mem_append_left _ ht,et⟩
       · obtain rfl:=List.mem_singleton.1 hz;exact⟨_,List.mem_append_right _ List.mem_cons_self,by rw[Zev]⟩
     · rcases List.mem_append.1 ht with ht|ht
       · obtain⟨z,hz,ez⟩:=i4 t ht;exact⟨z,List.mem_append_left _ hz,ez⟩
       · obtain rfl:=List.mem_singleton.1 ht;exact⟨x,by simp,by rw[Zev]⟩
theorem ZlR{L:List Ln}(hs:L.Pairwise (fun a b=>a.f<=b.f))(hz:∀F,ZaD L F%18446744073709551616=0):∀s∈sumsF L,s.d=s.c:=by
 intro s h;obtain⟨h1,h2,h3⟩:=(ZlQ L hs).1 s h
 have:=hz s.f
 unfold B64 at h2 h3;omega
theorem Zo1(L:List Ln)(F:Int):ZaD L F=Zbd (fun f _=>f == F) L:=rfl
def Zo(y id:Int):VS->Nat->List Ln->VS×Int
 | S,_,[]=>(S,0)
 | S,k,l::r=>if(amtAddR (seqV ((S.put (tx (Zi 74 [id,(k:Int)])) (Zj 8 [l.f,l.o,l.a])).now (bKy y l.f l.o))) l.a).2=0 then Zo y id ((S.put (tx (Zi 74 [id,(k:Int)])) (Zj 8 [l.f,l.o,l.a])).addB (bKy y l.f l.o) l.a) (k+1) r else((S.put (tx (Zi 74 [id,(k:Int)])) (Zj 8 [l.f,l.o,l.a])).addB (bKy y l.f l.o) l.a,(amtAddR (seqV ((S.put (tx (Zi 74 [id,(k:Int)])) (Zj 8 [l.f,l.o,l.a])).now (bKy y l.f l.o))) l.a).2)
def Z7(S:VS)(y kind of_:Int)(all:List Ln):VS×Int×Int:=
 if Zoz (stV (S.now (ZbO y)))≠0 then(S,0,Zoz (stV (S.now (ZbO y))))
 else if(nextE (seqV (S.now (tx (Zi 83 [1]))))).2≠0 then(S.next 1,0,(nextE (seqV (S.now (tx (Zi 83 [1]))))).2)
 else if(Zo y (nextE (seqV (S.now (tx (Zi 83 [1]))))).1 (S.next 1) 0 all).2≠0 then((Zo y (nextE (seqV (S.now (tx (Zi 83 [1]))))).1 (S.next 1) 0 all).1,0,(Zo y (nextE (seqV (S.now (tx (Zi 83 [1]))))).1 (S.next 1) 0 all).2)
 else((Zo y (nextE (seqV (S.now (tx (Zi 83 [1]))))).1 (S.next 1) 0 all).1.put (tx (Zi 69 [(nextE (seqV (S.now (tx (Zi 83 [1]))))).1])) (Zj 8 [y,kind,(all.length:Int),of_,0]),(nextE (seqV (S.now (tx (Zi 83 [1]))))).1,0)
def entPut(S:VS)(y kind of_:Int)(l:List Ln):VS×Int×Int:=if l.length<1∨200<l.length then(S,0,1)else Z7 S y kind of_ (l++balL (fundsOf l))
structure Zac(S S':VS)(n:Nat):Prop where
 ok:S'.Ok
 w:S'.W=S.W
 c:S'.C.length<=S.C.length+n
 ck:(∀p∈S.C,p.1.length<=60)->∀p∈S'.C,p.1.length<=60
theorem Zac.refl{S:VS}(h:S.Ok):Zac S S 0:=⟨h,rfl,Nat.le_refl _,fun h=>h⟩
theorem Zac.trans{S S1 S2:VS}{n m:Nat}(h:Zac S S1 n)(g:Zac S1 S2 m):Zac S S2 (n+m):=⟨g.ok,g.w.trans h.w,by have:=h.c;have:=g.c;omega,fun q=>g.ck (h.ck q)⟩
theorem Zac.more{S S1:VS}{n m:Nat}(h:Zac S S1 n)(hm:n<=m):Zac S S1 m:=⟨h.ok,h.w,by have:=h.c;omega,h.ck⟩
theorem Zac.put{S:VS}(h:S.Ok){x:Txt}(hx:x.length<=60)(v:List Int):Zac S (S.put x v) 1:=⟨h.put x v,rfl,ZL _ _ _,fun q p hp=>by
 rcases mem_setT hp with rfl|hp
 · exact hx
 · exact q p hp⟩
theorem Zac.del{S:VS}(h:S.Ok){x:Txt}(hx:x.length<=60):Zac S (S.del x) 1:=⟨h.del x,rfl,ZL _ _ _,fun q p hp=>by
 rcases mem_setT hp with rfl|hp
 · exact hx
 · exact q p hp⟩
theorem Zac.addB{S:VS}(h:S.Ok){x:Txt}(hx:x.length<=60)(a:Int):Zac S (S.addB x a) 1:=by
 unfold VS.addB VS.setB;split
 · split
   · exact .del h hx
   · exact .put h hx _
 · exact(Zac.refl h).more (Nat.zero_le _)
theorem ZbT(t:Int)(l:List Int):(tx (Zi t l)).length<=60:=by
 rw[ZZ];unfold Zi;rw[Zt,List.length_map,List.length_take];omega
theorem Zac.next{S:VS}(h:S.Ok)(n:Int):Zac S (S.next n) 1:=by
 unfold VS.next;split
 · exact(Zac.refl h).more (Nat.zero_le _)
 · exact .put h (ZbT _ _) _
theorem Zbm(y id:Int):∀(r:List Ln) (S:VS) (k:Nat),S.Ok->Zac S (Zo y id S k r).1 (2*r.length)
 | [],S,k,h=>Zac.refl h
 | l::r,S,k,h=>by
  have h1:=Zac.put h (ZbT 74 [id,(k:Int)]) (Zj 8 [l.f,l.o,l.a]);have h2:=h1.trans (Zac.addB h1.ok (show(bKy y l.f l.o).length<=60 by rw[ZgT];omega) l.a);unfold Zo;split
  · exact(h2.trans (Zbm y id r _ (k+1) h2.ok)).more (by rw[List.length_cons];omega)
  · exact h2.more (by rw[List.length_cons];omega)
theorem Zek(p:Int->Int->Bool)(y id:Int):∀(r:List Ln) (S:VS) (k:Nat),S.Ok->(Zo y id S k r).2=0->Zch p y (Zo y id S k r).1.nowL=Zch p y S.nowL+Zbd (fun f o=>p (Zn f) (Zn o)) r
 | [],S,k,h,_=>by rw[Ziu,Int.add_zero];rfl
 | l::r,S,k,h,h0=>by
  have h1:=Zac.put h (ZbT 74 [id,(k:Int)]) (Zj 8 [l.f,l.o,l.a]);have h2:=Zac.addB h1.ok (show(bKy y l.f l.o).length<=60 by rw[ZgT];omega) l.a
  unfold Zo at h0 ⊢
  split at h0
  · rename_i hz
    rw[if_pos hz,Zek p y id r _ (k+1) h2.ok h0,Zno h1.ok p y _ _ _ hz,ZbS h p y (by omega) (by omega),Zap];omega
  · rename_i hz
    exact absurd h0 hz
theorem ZjZ{S:VS}(h:S.Ok)(y kind of_:Int)(all:List Ln):Zac S (Z7 S y kind of_ all).1 (2*all.length+2):=by
 have h1:=Zac.next h 1;have h2:=h1.trans (Zbm y (nextE (seqV (S.now (tx (Zi 83 [1]))))).1 all _ 0 h1.ok);unfold Z7;split
 · exact(Zac.refl h).more (by omega)
 · split
   · exact h1.more (by omega)
   · split
     · exact h2.more (by omega)
     · exact(h2.trans (Zac.put h2.ok (ZbT _ _) _)).more (by omega)
theorem Zgh{S:VS}(h:S.Ok)(p:Int->Int->Bool)(y kind of_:Int)(all:List Ln)(h0:(Z7 S y kind of_ all).2.2=0):Zch p y (Z7 S y kind of_ all).1.nowL=Zch p y S.nowL+Zbd (fun f o=>p (Zn f) (Zn o)) all:=by
 have h1:=Zac.next h 1;have h2:=Zbm y (nextE (seqV (S.now (tx (Zi 83 [1]))))).1 all _ 0 h1.ok;have h3:=Zek p y (nextE (seqV (S.now (tx (Zi 83 [1]))))).1 all (S.next 1) 0 h1.ok
 have h4:Zch p y (S.next 1).nowL=Zch p y S.nowL:=by
  unfold VS.next;split
  · rfl
  · exact ZbS h p y (by omega) (by omega) _ _
 unfold Z7 at h0 ⊢
 split at h0
 · rename_i hz;exact absurd h0 hz
 · rename_i hz
   rw[if_neg hz]
   split at h0
   · rename_i hz2;exact absurd h0 hz2
   · rename_i hz2
     rw[if_neg hz2]
     split at h0
     · rename_i hz3;exact absurd h0 hz3
     · rename_i hz3
       rw[if_neg hz3];rw[ZbS h2.ok p y (by omega) (by omega),h3 (Classical.not_not.1 hz3),h4]
def ZaW(S:VS)(y:Int):Prop:=(∀F,Zch (fun f _=>f == F) y S.nowL%18446744073709551616=0)/\Zch (fun _ o=>ZoX o) y S.nowL%18446744073709551616=0
theorem Ziz{S:VS}(h:S.Ok){y kind of_:Int}{l:List Ln}(hb:ZaW S y)(hl:∀x∈l,Za7 x)(hz:ZaU l%18446744073709551616=0)(hd:∀x∈l,x.o≠1900/\x.o≠2900)(h0:(entPut S y kind of_ l).2.2=0):ZaW (entPut S y kind of_ l).1 y:=by
 unfold entPut at h0 ⊢
 split at h0
 · cases h0
 · rename_i hlen
   rw[if_neg hlen];refine⟨fun F=>?_,?_⟩
   · rw[Zgh h _ _ _ _ _ h0];have h1:=hb.1 F;have h2:=Ziv (fun f=>Zn f == F) _ (l++balL (fundsOf l)) (Nat.le_refl _) (Znk l hl);omega
   · rw[Zgh h _ _ _ _ _ h0];have h1:=hb.2;have h2:=Zp7 hz (fun x hx=>ZoZ (hd x hx).1 (hd x hx).2);omega
theorem ZaW.level{S:VS}{y:Int}(hb:ZaW S y)(h:S.Ok)(hy:0<=y/\y<4294967296):∀s∈sumsF (Zas ((S.scan (tx (Zi 66 [y]))).map Zaq)),s.d=s.c:=by
 refine ZlR (ZlP h hy) fun F=>?_
 rw[Zo1,Zix];exact hb.1 F
def dueFrom(L:List Ln):Int:=IntKind.i64.wrap (Zbd (fun _ o=>o == 1900) L)
def dueTo(L:List Ln):Int:=IntKind.i64.wrap (-(Zbd (fun _ o=>o == 2900) L))
theorem Zk5:∀(L:List Ln),Zbd (fun _ o=>ZoX o) L=Zbd (fun _ o=>o == 1900) L+Zbd (fun _ o=>o == 2900) L
 | []=>rfl
 | x::r=>by
  have ih:=Zk5 r;rw[Zap,Zap,Zap,ih];unfold ZoX;by_cases e:x.o=1900
  · rw[e];simp;omega
  · by_cases e2:x.o=2900
    · rw[e2];simp;omega
    · simp[e,e2]
theorem ZaW.due{S:VS}{y:Int}(hb:ZaW S y):dueFrom (Zas ((S.scan (tx (Zi 66 [y]))).map Zaq))=dueTo (Zas ((S.scan (tx (Zi 66 [y]))).map Zaq)):=by
 have h1:=hb.2;rw[<-Zix,Zk5]at h1;unfold dueFrom dueTo;exact Zh0 (by omega)
theorem ZaW.commit{S:VS}{y:Int}(hb:ZaW S y)(h:S.Ok):ZaW S.commit y:=by
 have e:S.commit.nowL=S.nowL:=h.commitW;unfold ZaW;rw[e];exact hb
theorem ZaW.start(y:Int):ZaW ⟨[],[]⟩ y:=⟨fun F=>rfl,rfl⟩
def Zbo(z:Dl):Dl:=⟨z.nd,z.o,z.o,z.c⟩
theorem Znq{z:Dl}(h:ZaE z):ZaE (Zbo z):=by
 intro v hv;simp only[Zbo,List.mem_cons,List.not_mem_nil,or_false]at hv;rcases hv with rfl|rfl|rfl|rfl
 · exact h _ (by simp)
 · exact h _ (by simp)
 · exact h _ (by simp)
 · exact h _ (by simp)
theorem Zdp{l:List Dl}(h:∀z∈l,ZaE z):∀z∈l.map Zbo,ZaE z:=fun z hz=>by
 obtain⟨u,hu,rfl⟩:=List.mem_map.1 hz;exact Znq (h u hu)
def Zcb(S:VS)(y f:Int)(l:List Ln):(List Dl×Int)×VS:=if f=0 then(((l.map ZY).map Zbo,0),S)else(((takeR S 2 y f l).1.1.map Zbo,(takeR S 2 y f l).1.2),(takeR S 2 y f l).2)
theorem Zk6{S:VS}{y f:Int}{l:List Ln}(h:(Zcb S y f l).1.2=0):(Zcb S y f l).1.1.length=l.length:=by
 unfold Zcb at h ⊢
 split
 · rw[List.length_map,List.length_map]
 · rename_i hf
   rw[if_neg hf]at h
   show(List.map Zbo _).length=_
   rw[List.length_map];exact Zbq h
theorem ZpT(S:VS)(y f:Int)(l:List Ln):(Zcb S y f l).2.W=S.W:=by
 unfold Zcb;split
 · rfl
 · exact Zkg _ _ _ _ _
theorem Zff{S:VS}{n:Nat}(h:Zv S n)(y f:Int)(l:List Ln):Zv (Zcb S y f l).2 (n+l.length):=by
 unfold Zcb;split
 · exact h.more (by omega)
 · exact Zfv h _ _ _ _
def expCh(f:Int)(z:Dl):Chg:=⟨z.nd,0,if f=0 then 0 else wrap64 (-z.o),z.o⟩
def ZcW(S:VS)(y:Int)(z:Dl):List Ln:=match nodeAt S y z.nd with
 | none=>[]
 | some n=>[⟨n.f,n.o,0,z.o⟩,⟨n.f,1010,0,wrap64 (-z.o)⟩]
def jLines(S:VS)(y:Int)(l:List Dl):List Ln:=l.flatMap (ZcW S y)
theorem Zfg{S:VS}{y:Int}{l:List Dl}{j:Nat}{z:Dl}(h:l[j]?=some z):jLines S y (l.take (j+1))=jLines S y (l.take j)++ZcW S y z:=by
 obtain⟨hj,rfl⟩:=List.getElem?_eq_some_iff.1 h;unfold jLines;rw[List.take_succ_eq_append_getElem hj,List.flatMap_append];simp
theorem Znr(S:VS)(y:Int)(z:Dl):(ZcW S y z).length<=2:=by
 unfold ZcW;split
 · exact Nat.zero_le _
 · exact Nat.le_refl _
theorem ZaR(S:VS)(y:Int):∀(l:List Dl),(jLines S y l).length<=2*l.length
 | []=>Nat.le_refl _
 | z::r=>by
  have h1:=Znr S y z;have h2:=ZaR S y r
  show(ZcW S y z++jLines S y r).length<=_
  rw[List.length_append,List.length_cons];omega
theorem Zk7{S:VS}{y:Int}(hS:∀n,∀i,nodeAt S y i=some n->ZbR n){z:Dl}(hz:ZaE z):∀x∈ZcW S y z,Za7 x:=by
 intro x hx;unfold ZcW at hx
 split at hx
 · cases hx
 · rename_i n hn
   have h1:=hS n _ hn;have h2:B64 n.f:=h1 _ (by simp);have h3:B64 n.o:=h1 _ (by simp);have h4:B64 z.o:=hz _ (by simp);have h5:B64 (wrap64 (-z.o)):=by unfold wrap64 B64;omega
   have h0:B64 0:=by unfold B64;omega
   have hc:B64 1010:=by unfold B64;omega
   rcases List.mem_cons.1 hx with rfl|hx
   · exact⟨h2,h3,h0,h4⟩
   · obtain rfl:=List.mem_singleton.1 hx;exact⟨h2,hc,h0,h5⟩
theorem Zfh{S:VS}{y:Int}(hS:∀n,∀i,nodeAt S y i=some n->ZbR n){l:List Dl}(hl:∀z∈l,ZaE z):∀x∈jLines S y l,Za7 x:=by
 intro x hx;obtain⟨z,hz,hx⟩:=List.mem_flatMap.1 hx;exact Zk7 hS (hl z hz) x hx
def Zbe(S:VS)(y f:Int)(cs:List Chg)(ls:List Dl):(Int×Bool×Int)×VS:=
 if(ZI S y 3 f cs ls).1.2.2=0 then
  (if(entPut (ZI S y 3 f cs ls).2 y 3 (ZI S y 3 f cs ls).1.1 (jLines (ZI S y 3 f cs ls).2 y ls)).2.2=0 then(((ZI S y 3 f cs ls).1.1,(ZI S y 3 f cs ls).1.2.1,0),(entPut (ZI S y 3 f cs ls).2 y 3 (ZI S y 3 f cs ls).1.1 (jLines (ZI S y 3 f cs ls).2 y ls)).1)
  else((0,false,(entPut (ZI S y 3 f cs ls).2 y 3 (ZI S y 3 f cs ls).1.1 (jLines (ZI S y 3 f cs ls).2 y ls)).2.2),(entPut (ZI S y 3 f cs ls).2 y 3 (ZI S y 3 f cs ls).1.1 (jLines (ZI S y 3 f cs ls).2 y ls)).1))
 else ZI S y 3 f cs ls
theorem Zcm{S:VS}(h:S.Ok)(y kind of_:Int)(l:List Ln):Zac S (entPut S y kind of_ l).1 (4*l.length+2):=by
 unfold entPut;split
 · exact(Zac.refl h).more (Nat.zero_le _)
 · refine(ZjZ h y kind of_ _).more ?_;have h1:=Nat.le_trans (Zb5 (fundsOf l)) (Zah l);rw[List.length_append];omega
theorem Zac.many{S S':VS}{n m:Nat}(g:Zac S S' m)(h:Zv S n):Zv S' (n+m):=
 ⟨g.ok,by have:=g.c;have:=h.len;rw[g.w];omega,by rw[g.w];exact h.wk,g.ck h.ck⟩
theorem Zc7{S:VS}{n:Nat}(h:Zv S n)(y kind of_:Int)(l:List Ln):Zv (entPut S y kind of_ l).1 (n+(4*l.length+2)):=(Zcm h.ok y kind of_ l).many h
theorem Zhd{S:VS}(h:S.Ok)(y kind of_:Int)(l:List Ln):(entPut S y kind of_ l).1.W=S.W:=(Zcm h y kind of_ l).w
theorem Zj0{S:VS}{n:Nat}(h:Zv S n)(y f:Int)(cs:List Chg)(ls:List Dl):Zv (Zbe S y f cs ls).2 (n+8*cs.length+8+(8*ls.length+2)):=by
 have h1:=ZcO h y 3 f cs ls;have h2:=Zc7 h1 y 3 (ZI S y 3 f cs ls).1.1 (jLines (ZI S y 3 f cs ls).2 y ls);have h3:=ZaR (ZI S y 3 f cs ls).2 y ls;have h4:=h2.more (show _<=n+8*cs.length+8+(8*ls.length+2) by omega);unfold Zbe;split
 · split
   · exact h4
   · exact h4
 · exact h1.more (by omega)
theorem Zo2{S:VS}{n:Nat}(h:Zv S n)(y f:Int)(cs:List Chg)(ls:List Dl):(Zbe S y f cs ls).2.W=S.W:=by
 have h1:=ZcO h y 3 f cs ls;have hW:=Zhw S y 3 f cs ls;have h2:=Zhd h1.ok y 3 (ZI S y 3 f cs ls).1.1 (jLines (ZI S y 3 f cs ls).2 y ls);unfold Zbe;split
 · split
   · exact h2.trans hW
   · exact h2.trans hW
 · exact hW
def expNew(S:VS)(y f:Int)(l:List Ln):(Int×Bool×Int)×VS:=
 if yChk S y=0 then
  (if preChk l=0 then
   (if(Zcb S y f l).1.2=0 then Zbe (Zcb S y f l).2 y f ((Zcb S y f l).1.1.map (expCh f)) (Zcb S y f l).1.1
   else((0,false,(Zcb S y f l).1.2),(Zcb S y f l).2))
  else((0,false,1),S))
 else((0,false,yChk S y),S)
theorem Zc8{S:VS}{n:Nat}(h:Zv S n)(y f:Int)(l:List Ln):Zv (expNew S y f l).2 (n+112):=by
 unfold expNew;split
 · split
   · rename_i hp
     have:=Zbp hp
     split
     · rename_i he
       have h1:=Zk6 he;exact(Zj0 (Zff h y f l) _ _ _ _).more (by rw[List.length_map,h1];omega)
     · exact(Zff h y f l).more (by omega)
   · exact h.more (by omega)
 · exact h.more (by omega)
theorem Zk8{S:VS}{n:Nat}(h:Zv S n)(y f:Int)(l:List Ln):(expNew S y f l).2.W=S.W:=by
 unfold expNew;split
 · split
   · split
     · exact(Zo2 (Zff h y f l) _ _ _ _).trans (ZpT _ _ _ _)
     · exact ZpT _ _ _ _
   · rfl
 · rfl
end Go.Proofs.YtiknkbpojmgbhaaGreat
