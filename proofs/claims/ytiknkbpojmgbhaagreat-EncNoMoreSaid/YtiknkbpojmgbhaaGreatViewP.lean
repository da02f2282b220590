/- TxtP, Zcz, ViewP. Conditions: in each theorem. -/
import Derived.Test.YtiknkbpojmgbhaaGreatBase
import Derived.Maps.OwnSet
import Derived.Maps.OwnOps
import Derived.Maps.RangeWalk
import Derived.StringKeys
import Derived.Sort.KeysCollected
set_option maxRecDepth 100000
set_option linter.unusedVariables false
open Go.Proofs.Tryz
namespace Go.Proofs.YtiknkbpojmgbhaaGreat
abbrev Txt:=List UInt8
def tx(l:List Int):Txt:=l.map fun n=>UInt8.ofNat n.toNat
def by_(x:Txt):List Int:=x.map fun u=>(u.toNat:Int)
theorem ZfJ(x:Txt):tx (by_ x)=x:=by
 unfold tx by_;rw[List.map_map]
 conv=>rhs;rw[<-List.map_id x]
 refine List.map_congr_left fun u _=>?_
 simp
theorem ZpG{l:List Int}(h:Zm l):by_ (tx l)=l:=by
 unfold tx by_;rw[List.map_map]
 conv=>rhs;rw[<-List.map_id l]
 refine List.map_congr_left fun x hx=>?_
 obtain⟨a,b⟩:=h x hx;simp;omega
theorem ZhV(x:Txt):Zm (by_ x):=by
 intro y hy;obtain⟨u,_,rfl⟩:=List.mem_map.1 hy
 have:=u.toNat_lt
 omega
theorem Zlv{l m:List Int}(hl:Zm l)(hm:Zm m)(h:tx l=tx m):l=m:=by rw[<-ZpG hl,<-ZpG hm,h]
theorem ZdG(x:Txt):(by_ x).length=x.length:=by simp[by_]
theorem ZZ(l:List Int):(tx l).length=l.length:=by simp[tx]
theorem Zqs(x:Txt)(n:Nat):(by_ x).take n=by_ (x.take n):=by simp[by_,List.map_take]
theorem Zqt(l:List Int)(n:Nat):(tx l).take n=tx (l.take n):=by simp[tx,List.map_take]
theorem ZC(x:Txt):¬x<x:=List.lt_irrefl x
theorem ZbD{x y z:Txt}(h:x<y)(g:y<z):x<z:=List.lt_trans h g
theorem tlt_tri(x y:Txt):x<y∨x=y∨y<x:=by
 by_cases h:x<y
 · exact .inl h
 · by_cases g:y<x
   · exact .inr (.inr g)
   · exact .inr (.inl (List.le_antisymm (List.not_lt.1 g) (List.not_lt.1 h)))
section
variable{β:Type}
def Zf(L:List (Txt×β))(x:Txt):Option β:=match L with
 | []=>none
 | p::r=>if p.1=x then some p.2 else Zf r x
theorem Zb2(p:Txt×β)(r:List (Txt×β))(x:Txt):Zf (p::r) x=if p.1=x then some p.2 else Zf r x:=rfl
def ZG(L:List (Txt×β)):Prop:=L.Pairwise fun p q=>p.1<q.1
def Zaw:List (Txt×β)->Txt->β->List (Txt×β)
 | [],x,v=>[(x,v)]
 | p::r,x,v=>if p.1<x then p::Zaw r x v else if p.1=x then(x,v)::r else(x,v)::p::r
def ZbE(L:List (Txt×β))(x:Txt):List (Txt×β):=L.filter fun p=>decide (p.1≠x)
theorem Zao{L:List (Txt×β)}{x:Txt}{v:β}(h:Zf L x=some v):(x,v)∈L:=by
 induction L with
 | nil=>cases h
 | cons p r ih=>
  unfold Zf at h
  split at h
  · rename_i e
    cases h;rw[<-e];exact List.mem_cons_self ..
  · exact List.mem_cons_of_mem _ (ih h)
theorem ZO{L:List (Txt×β)}{x:Txt}:Zf L x=none↔∀p∈L,p.1≠x:=by
 induction L with
 | nil=>simp[Zf]
 | cons p r ih=>
  unfold Zf;split
  · rename_i e
    constructor
    · intro h;cases h
    · intro h;exact absurd e (h p (List.mem_cons_self ..))
  · rename_i e
    rw[ih];constructor
    · intro h q hq;rcases List.mem_cons.1 hq with rfl|hq
      · exact e
      · exact h q hq
    · intro h q hq;exact h q (List.mem_cons_of_mem _ hq)
theorem ZG.look{L:List (Txt×β)}(h:ZG L){x:Txt}{v:β}(hm:(x,v)∈L):Zf L x=some v:=by
 induction L with
 | nil=>cases hm
 | cons p r ih=>
  obtain⟨h1,h2⟩:=List.pairwise_cons.1 h;unfold Zf;rcases List.mem_cons.1 hm with rfl|hm
  · simp
  · have:=h1 _ hm
    rw[if_neg (fun e=>by rw[e]at this;exact ZC _ this)];exact ih h2 hm
theorem ZG.tail{p:Txt×β}{L:List (Txt×β)}(h:ZG (p::L)):ZG L:=(List.pairwise_cons.1 h).2
theorem ZG.head{p:Txt×β}{L:List (Txt×β)}(h:ZG (p::L)):∀q∈L,p.1<q.1:=(List.pairwise_cons.1 h).1
theorem ZG.ext:∀{L M:List (Txt×β)},ZG L->ZG M->(∀x,Zf L x=Zf M x)->L=M
 | [],[],_,_,_=>rfl
 | [],q::M,_,hM,h=>by
  have:=h q.1
  simp[Zf]at this
 | p::L,[],_,_,h=>by
  have:=h p.1
  simp[Zf]at this
 | p::L,q::M,hL,hM,h=>by
  have e1:p.1=q.1:=by
   rcases tlt_tri p.1 q.1 with a|a|a
   · have h1:=h p.1
     have h2:Zf (q::M) p.1=none:=by
      rw[ZO];intro r hr e;rcases List.mem_cons.1 hr with rfl|hr
      · rw[e]at a;exact ZC _ a
      · have:=ZbD a (hM.head r hr);rw[e]at this;exact ZC _ this
     rw[h2]at h1;simp[Zf]at h1
   · exact a
   · have h1:=h q.1
     have h2:Zf (p::L) q.1=none:=by
      rw[ZO];intro r hr e;rcases List.mem_cons.1 hr with rfl|hr
      · rw[e]at a;exact ZC _ a
      · have:=ZbD a (hL.head r hr);rw[e]at this;exact ZC _ this
     rw[h2]at h1;simp[Zf]at h1
  have e2:p.2=q.2:=by
   have h1:=h p.1;unfold Zf at h1;rw[if_pos rfl,if_pos e1.symm]at h1;exact Option.some.inj h1
  have e3:L=M:=by
   refine ZG.ext hL.tail hM.tail fun x=>?_
   by_cases ex:p.1=x
   · have a1:Zf L x=none:=ZO.2 fun r hr e=>by have:=hL.head r hr;rw[e,ex]at this;exact ZC _ this
     have a2:Zf M x=none:=ZO.2 fun r hr e=>by have:=hM.head r hr;rw[e,<-e1,ex]at this;exact ZC _ this
     rw[a1,a2]
   · have h1:=h x;unfold Zf at h1;rw[if_neg ex,if_neg (fun e=>ex (e1.trans e))]at h1;exact h1
  rw[show p=q from Prod.ext e1 e2,e3]
theorem mem_setT{L:List (Txt×β)}{x:Txt}{v:β}{q:Txt×β}(h:q∈Zaw L x v):q=(x,v)∨q∈L:=by
 induction L with
 | nil=>exact .inl (List.mem_singleton.1 h)
 | cons p r ih=>
  unfold Zaw at h
  split at h
  · rcases List.mem_cons.1 h with rfl|h
    · exact .inr (List.mem_cons_self ..)
    · rcases ih h with a|a
      · exact .inl a
      · exact .inr (List.mem_cons_of_mem _ a)
  · split at h
    · rcases List.mem_cons.1 h with rfl|h
      · exact .inl rfl
      · exact .inr (List.mem_cons_of_mem _ h)
    · rcases List.mem_cons.1 h with rfl|h
      · exact .inl rfl
      · exact .inr h
theorem ZG.set{L:List (Txt×β)}(h:ZG L)(x:Txt)(v:β):ZG (Zaw L x v):=by
 induction L with
 | nil=>exact List.pairwise_singleton _ _
 | cons p r ih=>
  unfold Zaw;split
  · rename_i e
    refine List.pairwise_cons.2 ⟨fun q hq=>?_,ih h.tail⟩;rcases mem_setT hq with rfl|hq
    · exact e
    · exact h.head q hq
  · split
    · rename_i e
      refine List.pairwise_cons.2 ⟨fun q hq=>?_,h.tail⟩;rw[<-e];exact h.head q hq
    · rename_i e1 e2
      have hx:x<p.1:=by
       rcases tlt_tri p.1 x with a|a|a
       · exact absurd a e1
       · exact absurd a e2
       · exact a
      refine List.pairwise_cons.2 ⟨fun q hq=>?_,h⟩;rcases List.mem_cons.1 hq with rfl|hq
      · exact hx
      · exact ZbD hx (h.head q hq)
theorem Zaf{L:List (Txt×β)}(h:ZG L)(x y:Txt)(v:β):Zf (Zaw L x v) y=if x=y then some v else Zf L y:=by
 induction L with
 | nil=>simp[Zaw,Zf]
 | cons p r ih=>
  unfold Zaw;split
  · rename_i e
    unfold Zf;rw[ih h.tail];by_cases e1:p.1=y
    · rw[if_pos e1,if_neg (fun e2=>by rw[e1,e2]at e;exact ZC _ e),if_pos e1]
    · rw[if_neg e1,if_neg e1]
  · split
    · rename_i e1 e
      subst e;unfold Zf;by_cases e2:p.1=y
      · rw[if_pos e2,if_pos e2]
      · rw[if_neg e2,if_neg e2,if_neg e2]
    · rename_i e1 e2
      conv=>lhs;unfold Zf
theorem ZG.filter{L:List (Txt×β)}(h:ZG L)(p:Txt×β->Bool):ZG (L.filter p):=List.Pairwise.filter _ h
theorem ZG.del{L:List (Txt×β)}(h:ZG L)(x:Txt):ZG (ZbE L x):=h.filter _
theorem Zbs(L:List (Txt×β))(x y:Txt):Zf (ZbE L x) y=if x=y then none else Zf L y:=by
 induction L with
 | nil=>simp[ZbE,Zf]
 | cons p r ih=>
  unfold ZbE at ih ⊢
  rw[List.filter_cons];by_cases e:p.1=x
  · rw[if_neg (by simpa using e),ih];by_cases e1:x=y
    · rw[if_pos e1,if_pos e1]
    · rw[if_neg e1,if_neg e1]
      conv=>rhs;unfold Zf
      rw[if_neg (fun e2=>e1 (e.symm.trans e2))]
  · rw[if_pos (by simpa using e)];unfold Zf;rw[ih];by_cases e2:p.1=y
    · rw[if_pos e2,if_neg (fun e3=>e (e2.trans e3.symm)),if_pos e2]
    · rw[if_neg e2,if_neg e2]
theorem ZhW(L:List (Txt×β))(x:Txt):(ZbE L x).length<=L.length:=List.length_filter_le _ _
theorem ZL(L:List (Txt×β))(x:Txt)(v:β):(Zaw L x v).length<=L.length+1:=by
 induction L with
 | nil=>simp[Zaw]
 | cons p r ih=>
  unfold Zaw;split
  · simp;omega
  · split <;> simp
end
end Go.Proofs.YtiknkbpojmgbhaaGreat
namespace Go.Proofs.YtiknkbpojmgbhaaGreat
open Go.RowKit Go.Maps Go.ChangeMaps Go.MapKept Go.WideMaps
def Zqu(v:Value):Option (DataW Value×List MemPlace):=some (.held v,[])
theorem ZpH{v:Value}{y:DataW Value×List MemPlace}(h:Zqu v=some y):y=(.held v,[]):=(Option.some.inj h).symm
theorem Zcy:Keyed prog 9:=string_keyed underlying9
theorem ZhX{k:Txt}(h:k.length<=maxLen):keyOf prog 9 (encStr k)=some (.string k):=by
 have:=keyOf_string_mk (P:=prog) (s:=⟨k.toArray⟩) underlying9 (by simpa[ByteArray.size] using h)
 simpa using this
def ZqT(D:DataW Value)(f:Txt->Option Value):Prop:=∀x:Txt,Maps.has D (.string x)=(f x).isSome/\∀v z,f x=some v->D.atKey (.string x) z=.held v
def Zcz(w:World)(b n:Nat)(f:Txt->Option Value):Prop:=
 ∃D:DataW Value,w.ownsMap prog 9 Zqu b n D/\ZqT D f
def Za0(w:World)(b r n:Nat)(f:Txt->Option Value)(left:Txt->Bool)(cnt:Nat):Prop:=
 ∃(D:DataW Value) (lf:Lit->Bool),w.ranges prog 9 Zqu b r n D lf cnt/\ZqT D f/\∀x,lf (.string x)=left x
section
variable{w w':World}{b r n cnt:Nat}{f:Txt->Option Value}{left:Txt->Bool}
theorem Zcz.made(w:World):Zcz (w.alloc (.map #[] 0)) w.heap.size 0 (fun _=>none):=
 ⟨_,World.ownsMap_made w _ _ _,fun i=>⟨rfl,fun v z h=>by cases h⟩⟩
theorem Zcz.lt(h:Zcz w b n f):b<w.heap.size:=by
 obtain⟨D,h1,_⟩:=h;exact h1.lt
theorem Zcz.block(h:Zcz w b n f):∃es c,w.heap[b]?=some (.map es c):=by
 obtain⟨D,⟨es,c,hb,_⟩,_⟩:=h;exact⟨es,c,hb⟩
theorem Zcz.of_block(h:Zcz w b n f)(e:w'.heap[b]?=w.heap[b]?):Zcz w' b n f:=by
 obtain⟨D,⟨es,c,hb,rest⟩,hf⟩:=h;exact⟨D,⟨es,c,e.trans hb,rest⟩,hf⟩
theorem ZgP{D:DataW Value}{k:Lit}(h:Maps.has D k=false)(z:DataW Value):D.atKey k z=z:=Maps.atKey_of_not_has h z
theorem Zcz.look(h:Zcz w b n f){t e:TypeId}(ht:prog.underlying t=some (.map 9 e)){z:Value}(hz:(zeroValue e).run prog w=.ok z w){x:Txt}(hx:x.length<=maxLen) :
 (Instr.lookup t (.map (some b)) (encStr x) true).run prog w=.ok (.tuple #[(f x).getD z,.bool (f x).isSome]) w:=by
 obtain⟨D,h1,hf⟩:=h;obtain⟨v,ps,hrun,hv⟩:=h1.look_ok Zcy ht hz (show Zqu z=some (.held z,[])from rfl) (ZhX hx);obtain⟨hh,ha⟩:=hf x;rw[hrun,hh]
 have hv':DataW.held v=D.atKey (.string x) (.held z):=by
  have:=Option.some.inj hv
  exact congrArg Prod.fst this
 rcases hfi:f x with _|u
 · rw[hfi]at hh;rw[ZgP hh]at hv'
   cases hv';rfl
 · rw[ha u _ hfi]at hv'
   cases hv';rfl
theorem Zcz.get(h:Zcz w b n f){t e:TypeId}(ht:prog.underlying t=some (.map 9 e)){z:Value}(hz:(zeroValue e).run prog w=.ok z w){x:Txt}(hx:x.length<=maxLen){u:Value}(hu:f x=some u) :
 (Instr.lookup t (.map (some b)) (encStr x) false).run prog w=.ok u w:=by
 obtain⟨D,h1,hf⟩:=h;obtain⟨v,ps,hrun,hv⟩:=h1.lookup Zcy ht hz (show Zqu z=some (.held z,[])from rfl) (ZhX hx);obtain⟨hh,ha⟩:=hf x;rw[hrun]
 have hv':DataW.held v=D.atKey (.string x) (.held z):=by
  have:=Option.some.inj hv
  exact congrArg Prod.fst this
 rw[ha u _ hu]at hv'
 cases hv';rfl
theorem Zcz.store(h:Zcz w b n f){t e:TypeId}(ht:prog.underlying t=some (.map 9 e))(hn:n<maxLen){x:Txt}(hx:x.length<=maxLen)(u:Value) :
 ∃w',(Instr.mapUpdate t (.map (some b)) (encStr x) u).run prog w=.ok () w'/\Zcz w' b (n+1) (fun j=>if j=x then some u else f j)/\w.grownBy w' (some b):=by
 obtain⟨D,h1,hf⟩:=h;obtain⟨w',hrun,h2,h3⟩:=h1.update Zcy ht hn (ZhX hx) (show Zqu u=some (.held u,[])from rfl);refine⟨w',hrun,⟨_,h2,fun j=>?_⟩,h3⟩;by_cases e:j=x
 · subst e;show Maps.has _ _=(if j=j then some u else f j).isSome/\∀v z,(if j=j then some u else f j)=some v->_;rw[if_pos rfl];refine⟨has_put_same h1.isMap (by trivial) _,fun v z hv=>?_⟩;cases hv;exact atKey_put_same h1.isMap (by trivial) _ _
 · show Maps.has _ _=(if j=x then some u else f j).isSome/\∀v z,(if j=x then some u else f j)=some v->_;rw[if_neg e];have hne:(Lit.string j)≠Lit.string x:=fun h=>e (by injection h)
   rw[has_put_other hne];refine⟨(hf j).1,fun v z hv=>?_⟩;rw[atKey_put_other hne];exact(hf j).2 v z hv
theorem Zcz.delete(h:Zcz w b n f){t e:TypeId}(ht:prog.underlying t=some (.map 9 e)){x:Txt}(hx:x.length<=maxLen)(ty:TypeId) :
 ∃w',(Builtin.delete_ #[t,9] ty #[.map (some b),encStr x]).run prog w=.ok (.tuple #[]) w'/\Zcz w' b n (fun j=>if j=x then none else f j)/\w.grownBy w' (some b):=by
 obtain⟨D,h1,hf⟩:=h;obtain⟨w',hrun,h2,h3⟩:=h1.drop Zcy ht (ZhX hx) ty;refine⟨w',hrun,⟨_,h2,fun j=>?_⟩,h3.grown⟩;by_cases e:j=x
 · subst e;show Maps.has _ _=(if j=j then none else f j).isSome/\∀v z,(if j=j then none else f j)=some v->_;rw[if_pos rfl];exact⟨has_del_same,fun v z hv=>by cases hv⟩
 · show Maps.has _ _=(if j=x then none else f j).isSome/\∀v z,(if j=x then none else f j)=some v->_;rw[if_neg e];have hne:(Lit.string j)≠Lit.string x:=fun h=>e (by injection h)
   rw[has_del_other hne];refine⟨(hf j).1,fun v z hv=>?_⟩;rw[atKey_del_other hne];exact(hf j).2 v z hv
theorem Zcz.clear_(h:Zcz w b n f){t e:TypeId}(ht:prog.underlying t=some (.map 9 e))(ty:TypeId) :
 ∃w',(Builtin.clear_ #[t] ty #[.map (some b)]).run prog w=.ok (.tuple #[]) w'/\Zcz w' b 0 (fun _=>none)/\w.grownBy w' (some b):=by
 obtain⟨D,⟨es,c,hb,_⟩,_⟩:=h;refine⟨ChangeMaps.setBlock w b (.map #[] c),?_,⟨.map [],⟨#[],c,heap_setBlock_same hb _,⟨by simp,stamped_empty c,by simp⟩,Nat.le_refl _,rfl⟩,fun i=>⟨rfl,fun v z h=>by cases h⟩⟩,⟨rfl,rfl,rfl,by simp[ChangeMaps.setBlock],fun i _ hi=>heap_setBlock_other hb _ (fun e=>hi (by rw[e]))⟩⟩;simp[Builtin.clear_,run_underlying ht,MapKept.run_getObj_map hb,MapKept.run_setObj_map _ hb,Result.andThen];rfl
theorem ZqT.none_{D:DataW Value}(h:ZqT D f){x:Txt}(e:f x=none):Maps.has D (.string x)=false:=by rw[(h x).1,e];rfl
theorem Zcz.range(h:Zcz w b n f){t e:TypeId}(ht:prog.underlying t=some (.map 9 e)) :
 ∃w' cnt,(Instr.range t (.map (some b))).run prog w=.ok (.pointer (some ⟨w.heap.size,0,none⟩)) w'/\Za0 w' b w.heap.size n f (fun x=>(f x).isSome) cnt/\cnt<=n/\w.grownBy w' none/\w'.heap.size=w.heap.size+1:=by
 obtain⟨D,h1,hf⟩:=h;obtain⟨w',hrun,h2,h3,h4⟩:=h1.range Zcy ht;exact⟨w',_,hrun,⟨D,_,h2,hf,fun x=>(hf x).1⟩,h1.size_le,h3,h4⟩
theorem Za0.lt(h:Za0 w b r n f left cnt):r<w.heap.size:=by
 obtain⟨D,lf,h1,_⟩:=h;exact h1.lt
theorem Za0.left_eq(h:Za0 w b r n f left cnt):w.rangeLeft b r=cnt:=by
 obtain⟨D,lf,h1,_⟩:=h;exact h1.left_eq
theorem Za0.keep(h:Za0 w b r n f left cnt)(e1:w'.heap[b]?=w.heap[b]?)(e2:w'.heap[r]?=w.heap[r]?):Za0 w' b r n f left cnt:=by
 obtain⟨D,lf,⟨es,clock,since,seen,c0,hb,F,hs,hD,hr,rest⟩,hf,hl⟩:=h;exact⟨D,lf,⟨es,clock,since,seen,c0,e1.trans hb,F,hs,hD,e2.trans hr,rest⟩,hf,hl⟩
theorem Za0.next(h:Za0 w b r n f left cnt)(ty:TypeId) :
 (cnt=0/\(∀x,left x=false)/\(Instr.next (.pointer (some ⟨r,0,none⟩)) false ty).run prog w=.ok (.tuple #[.bool false]) w)∨
 ∃x v w' cnt',x.length<=maxLen/\left x=true/\f x=some v/\(Instr.next (.pointer (some ⟨r,0,none⟩)) false ty).run prog w=.ok (.tuple #[.bool true,encStr x,v]) w'/\
  Za0 w' b r n f (fun z=>left z && !decide (z=x)) cnt'/\cnt'<cnt/\w.grownBy w' (some r)/\w'.heap.size=w.heap.size/\(Instr.entry (.pointer (some ⟨r,0,none⟩))).run prog w'=.ok (.tuple #[encStr x,v]) w':=by
 obtain⟨D,lf,h1,hf,hl⟩:=h;rcases h1.next Zcy ty with ⟨h0,hn,hrun⟩|⟨key,v,kl,y,w',cnt',hkey,hlk,hv,hat,hrun,hrg,hlt,hgr,hsz,hen⟩
 · exact .inl ⟨h0,fun x=>by rw[<-hl x];exact hn _,hrun⟩
 · obtain⟨x,rfl,rfl,hx⟩:=Maps.keyOf_str underlying9 hkey;obtain rfl:=ZpH hv;refine .inr ⟨x,v,w',cnt',hx,by rw[<-hl x];exact hlk,?_,hrun,⟨D,_,hrg,hf,fun z=>?_⟩,hlt,hgr,hsz,hen⟩
   · rcases hfx:f x with _|u
     · have h2:=hat (.map []);rw[ZgP (hf.none_ hfx)]at h2;cases h2
     · have h2:=hat (.map []);rw[(hf x).2 u _ hfx]at h2
       cases h2;rfl
   · show(lf (.string z) && !(Lit.string z).sameKey (.string x))=_
     rw[hl z]
     congr 2
     rw[Bool.eq_iff_iff];simp[Lit.sameKey]
theorem ZgQ:∀(l m:List Txt),l.Nodup->(∀x∈l,x∈m)->l.length<=m.length
 | [],m,_,_=>Nat.zero_le _
 | x::r,m,hn,h=>by
  have hn':=List.nodup_cons.1 hn;have h1:=ZgQ r (m.erase x) hn'.2 (fun y hy=>(List.mem_erase_of_ne (fun e=>hn'.1 (by rw[<-e];exact hy))).2 (h y (List.mem_cons_of_mem _ hy)));have h2:=List.length_erase_of_mem (h x (List.mem_cons_self ..));have h3:0<m.length:=List.length_pos_of_mem (h x (List.mem_cons_self ..));rw[List.length_cons];omega
theorem Zcz.tight(h:Zcz w b n f)(ks:List Txt)(hk:∀i,f i≠none->i∈ks):Zcz w b ks.length f:=by
 obtain⟨D,hD,hf⟩:=h;obtain⟨es,rfl,hne,hkey⟩:=hD.entries Zcy
 have hint:∀p∈es,∃i:Txt,p.1=.string i:=by
  obtain⟨es',c,hb,Ft,hs,he⟩:=hD;intro p hp;injection he with he;rw[he]at hp;obtain⟨x,hx,rfl⟩:=List.mem_map.1 (mem_sorted.1 hp);obtain⟨y,hy⟩:=Ft.reads x hx;rw[WideElems.rg_of hy];obtain⟨i,_,e,_⟩:=Maps.keyOf_str underlying9 (WideElems.rd_key hy);exact⟨i,e⟩
 have hlen:es.length<=ks.length:=by
  have hsub:∀i∈es.map (fun p=>strOf p.1),i∈ks:=by
   intro i hi;obtain⟨p,hp,rfl⟩:=List.mem_map.1 hi;obtain⟨i,e⟩:=hint p hp;rw[e];refine hk i (fun e0=>?_)
   have:=(hf i).1
   rw[e0,Maps.has_eq]at this;have h2:es.any (fun p=>p.1.sameKey (.string i))=true:=List.any_eq_true.2 ⟨p,hp,by rw[e];simp[Lit.sameKey]⟩;rw[h2]at this;cases this
  have hnd:(es.map (fun p=>strOf p.1)).Nodup:=by
   rw[List.nodup_iff_pairwise_ne,List.pairwise_map];refine hne.imp_of_mem fun {p q} hp hq hpq e=>hpq ?_
   obtain⟨i,hi⟩:=hint p hp;obtain⟨j,hj⟩:=hint q hq;rw[hi,hj]at e ⊢
   have:i=j:=e
   rw[this]
  have:=ZgQ _ ks hnd hsub
  simpa using this
 obtain⟨es',c,hb,Ft,hs,he⟩:=hD;refine⟨_,⟨es',c,hb,Ft,?_,he⟩,hf⟩;injection he with he
 have:es.length=es'.size:=by rw[he,length_sorted];simp
 omega
end
abbrev TL:=List (Txt×List Int)
structure VS where
 W:TL
 C:List (Txt×Option (List Int))
namespace VS
def now(S:VS)(x:Txt):Option (List Int):=match Zf S.C x with
 | some c=>c
 | none=>Zf S.W x
def put(S:VS)(x:Txt)(v:List Int):VS:=⟨S.W,Zaw S.C x (some v)⟩
def del(S:VS)(x:Txt):VS:=⟨S.W,Zaw S.C x none⟩
def abort(S:VS):VS:=⟨S.W,[]⟩
def one(L:TL)(p:Txt×Option (List Int)):TL:=match p.2 with
 | some v=>Zaw L p.1 v
 | none=>ZbE L p.1
def nowL(S:VS):TL:=S.C.foldl one S.W
def putsF(W:TL)(p:Txt×Option (List Int)):Option (Txt×List Int):=match p.2 with
 | some v=>if Zf W p.1=some v then none else some (p.1,v)
 | none=>none
def delsF(W:TL)(p:Txt×Option (List Int)):Option Txt:=match p.2 with
 | some v=>none
 | none=>if(Zf W p.1).isSome then some p.1 else none
def puts(S:VS):TL:=S.C.filterMap (putsF S.W)
def dels(S:VS):List Txt:=S.C.filterMap (delsF S.W)
def written(W:TL)(puts:TL)(dels:List Txt):TL:=puts.foldl (fun L p=>Zaw L p.1 p.2) (dels.foldl ZbE W)
def commit(S:VS):VS:=⟨written S.W S.puts S.dels,[]⟩
def scan(S:VS)(x:Txt):TL:=S.nowL.filter fun p=>x.isPrefixOf p.1
structure Ok(S:VS):Prop where
 w:ZG S.W
 c:ZG S.C
theorem ZpI{L:TL}(h:ZG L)(p:Txt×Option (List Int)):ZG (one L p):=by
 unfold one;split
 · exact h.set _ _
 · exact h.del _
theorem ZpJ{L:TL}(h:ZG L)(p:Txt×Option (List Int))(y:Txt):Zf (one L p) y=if p.1=y then p.2 else Zf L y:=by
 unfold one;split
 · rename_i v e
   rw[Zaf h,e]
 · rename_i e
   rw[Zbs,e]
theorem ZhY:∀(C:List (Txt×Option (List Int))) (L:TL),ZG L->ZG C->ZG (C.foldl one L)/\∀y,Zf (C.foldl one L) y=match Zf C y with|some c=>c|none=>Zf L y
 | [],L,h,_=>⟨h,fun y=>by simp[Zf]⟩
 | p::C,L,h,hC=>by
  have ih:=ZhY C (one L p) (ZpI h p) hC.tail;refine⟨ih.1,fun y=>?_⟩;rw[List.foldl_cons,ih.2 y,ZpJ h];rw[Zb2];by_cases e:p.1=y
  · have:Zf C y=none:=ZO.2 fun q hq e'=>by
     have:=hC.head q hq
     rw[e',e]at this;exact ZC _ this
    rw[this,if_pos e,if_pos e]
  · rw[if_neg e,if_neg e]
theorem Ok.nowL{S:VS}(h:S.Ok):ZG S.nowL:=(ZhY S.C S.W h.w h.c).1
theorem Ok.look{S:VS}(h:S.Ok)(y:Txt):Zf S.nowL y=S.now y:=(ZhY S.C S.W h.w h.c).2 y
theorem Ok.put{S:VS}(h:S.Ok)(x:Txt)(v:List Int):(S.put x v).Ok:=⟨h.w,h.c.set _ _⟩
theorem Ok.del{S:VS}(h:S.Ok)(x:Txt):(S.del x).Ok:=⟨h.w,h.c.set _ _⟩
theorem Ok.abort{S:VS}(h:S.Ok):S.abort.Ok:=⟨h.w,List.Pairwise.nil⟩
theorem Ok.now_put{S:VS}(h:S.Ok)(x y:Txt)(v:List Int):(S.put x v).now y=if x=y then some v else S.now y:=by
 unfold now
 show(match Zf (Zaw S.C x (some v)) y with|some c=>c|none=>Zf S.W y)=_
 rw[Zaf h.c];by_cases e:x=y
 · rw[if_pos e,if_pos e]
 · rw[if_neg e,if_neg e]
theorem Ok.now_del{S:VS}(h:S.Ok)(x y:Txt):(S.del x).now y=if x=y then none else S.now y:=by
 unfold now
 show(match Zf (Zaw S.C x none) y with|some c=>c|none=>Zf S.W y)=_
 rw[Zaf h.c];by_cases e:x=y
 · rw[if_pos e,if_pos e]
 · rw[if_neg e,if_neg e]
theorem ZjB:∀(P:TL) (L:TL),ZG L->ZG P->ZG (P.foldl (fun L p=>Zaw L p.1 p.2) L)/\∀y,Zf (P.foldl (fun L p=>Zaw L p.1 p.2) L) y=match Zf P y with|some v=>some v|none=>Zf L y
 | [],L,h,_=>⟨h,fun y=>by simp[Zf]⟩
 | p::C,L,h,hC=>by
  have ih:=ZjB C (Zaw L p.1 p.2) (h.set _ _) hC.tail;refine⟨ih.1,fun y=>?_⟩;rw[List.foldl_cons,ih.2 y,Zaf h];rw[Zb2];by_cases e:p.1=y
  · have:Zf C y=none:=ZO.2 fun q hq e'=>by
     have:=hC.head q hq
     rw[e',e]at this;exact ZC _ this
    rw[this,if_pos e,if_pos e]
  · rw[if_neg e,if_neg e]
theorem ZjC:∀(P:List Txt) (L:TL),ZG L->ZG (P.foldl ZbE L)/\∀y,Zf (P.foldl ZbE L) y=if y∈P then none else Zf L y
 | [],L,h=>⟨h,fun y=>by simp⟩
 | p::C,L,h=>by
  have ih:=ZjC C (ZbE L p) (h.del _);refine⟨ih.1,fun y=>?_⟩;rw[List.foldl_cons,ih.2 y,Zbs];by_cases e:p=y
  · subst e;simp
  · by_cases e2:y∈C
    · rw[if_pos e2,if_pos (List.mem_cons_of_mem _ e2)]
    · rw[if_neg e2,if_neg e,if_neg (fun h=>by
       rcases List.mem_cons.1 h with a|a
       · exact e a.symm
       · exact e2 a)]
theorem Zqv{f:Txt×Option (List Int)->Option (Txt×List Int)}(hf:∀p q,f p=some q->q.1=p.1):∀{C:List (Txt×Option (List Int))},ZG C->ZG (C.filterMap f):=by
 intro C hC;refine List.Pairwise.filterMap f ?_ hC;intro a a' h b hb b' hb';rw[hf a b hb,hf a' b' hb'];exact h
theorem putsF_key{W:TL}{p:Txt×Option (List Int)}{q:Txt×List Int}(h:putsF W p=some q):q.1=p.1/\p.2=some q.2/\Zf W p.1≠p.2:=by
 unfold putsF at h
 split at h
 · rename_i v e
   split at h
   · cases h
   · rename_i e1
     cases h;exact⟨rfl,e,by rw[e];exact e1⟩
 · cases h
theorem Ok.puts{S:VS}(h:S.Ok):ZG S.puts:=Zqv (fun p q e=>(putsF_key e).1) h.c
theorem Ok.puts_look{S:VS}(h:S.Ok)(y:Txt):Zf S.puts y=match Zf S.C y with|some (some v)=>if Zf S.W y=some v then none else some v|_=>none:=by
 cases hc:Zf S.C y with
 | none=>
  show Zf S.puts y=none;rw[ZO];intro q hq e;obtain⟨p,hp,hpq⟩:=List.mem_filterMap.1 hq
  have:=ZO.1 hc p hp
  exact this ((putsF_key hpq).1.symm.trans e)
 | some c=>
  have hm:=Zao hc;cases c with
  | none=>
   show Zf S.puts y=none;rw[ZO];intro q hq e;obtain⟨p,hp,hpq⟩:=List.mem_filterMap.1 hq;obtain⟨k1,k2,_⟩:=putsF_key hpq;have h1:=h.c.look (show(p.1,p.2)∈S.C from hp);rw[<-k1,e,hc,k2]at h1;cases h1
  | some v=>
   show Zf S.puts y=if Zf S.W y=some v then none else some v
   by_cases e:Zf S.W y=some v
   · rw[if_pos e,ZO];intro q hq e';obtain⟨p,hp,hpq⟩:=List.mem_filterMap.1 hq;obtain⟨k1,k2,k3⟩:=putsF_key hpq;have h1:=h.c.look (show(p.1,p.2)∈S.C from hp);have k4:p.1=y:=k1.symm.trans e';rw[k4,hc]at h1;have h2:some v=p.2:=Option.some.inj h1;rw[k4,e]at k3;exact k3 h2
   · rw[if_neg e];refine h.puts.look (List.mem_filterMap.2 ⟨(y,some v),hm,?_⟩)
     show(if Zf S.W y=some v then none else some (y,v))=some (y,v)
     rw[if_neg e]
theorem Ok.mem_dels{S:VS}(h:S.Ok)(y:Txt):y∈S.dels↔Zf S.C y=some none/\(Zf S.W y).isSome=true:=by
 unfold dels;rw[List.mem_filterMap];constructor
 · rintro⟨p,hp,hpq⟩;unfold delsF at hpq
   split at hpq
   · cases hpq
   · rename_i e
     split at hpq
     · rename_i e1
       cases hpq;refine⟨?_,e1⟩
       have:=h.c.look (show(p.1,p.2)∈S.C from hp)
       rw[this,e]
     · cases hpq
 · rintro⟨h1,h2⟩;refine⟨(y,none),Zao h1,?_⟩
   show(if(Zf S.W y).isSome=true then some y else none)=some y
   rw[if_pos h2]
theorem Ok.written{S:VS}(h:S.Ok):ZG (VS.written S.W S.puts S.dels)/\∀y,Zf (VS.written S.W S.puts S.dels) y=S.now y:=by
 have h1:=ZjC S.dels S.W h.w;have h2:=ZjB S.puts _ h1.1 h.puts;refine⟨h2.1,fun y=>?_⟩;unfold VS.written;rw[h2.2 y,h.puts_look y,h1.2 y];unfold now
 cases hc:Zf S.C y with
 | none=>
  show(if y∈S.dels then none else Zf S.W y)=Zf S.W y
  rw[if_neg (fun hm=>by
   have:=((h.mem_dels y).1 hm).1
   rw[hc]at this
   cases this)]
 | some c=>
  cases c with
  | none=>
   show(if y∈S.dels then none else Zf S.W y)=none
   by_cases hm:y∈S.dels
   · rw[if_pos hm]
   · rw[if_neg hm]
     cases hw:Zf S.W y with
     | none=>rfl
     | some u=>exact absurd ((h.mem_dels y).2 ⟨hc,by rw[hw];rfl⟩) hm
  | some v=>
   show(match (if Zf S.W y=some v then none else some v)with|some v=>some v|none=>if y∈S.dels then none else Zf S.W y)=some v
   by_cases e:Zf S.W y=some v
   · rw[if_pos e]
     show(if y∈S.dels then none else Zf S.W y)=some v
     rw[if_neg (fun hm=>by
      have:=((h.mem_dels y).1 hm).1
      rw[hc]at this
      cases this),e]
   · rw[if_neg e]
theorem Ok.commit{S:VS}(h:S.Ok):S.commit.Ok:=⟨h.written.1,List.Pairwise.nil⟩
theorem Ok.commitW{S:VS}(h:S.Ok):S.commit.W=S.nowL:=ZG.ext h.written.1 h.nowL fun y=>(h.written.2 y).trans (h.look y).symm
end VS
end Go.Proofs.YtiknkbpojmgbhaaGreat
