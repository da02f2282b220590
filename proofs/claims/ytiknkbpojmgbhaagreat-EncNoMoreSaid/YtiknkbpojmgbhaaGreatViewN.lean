/- ViewM, ViewN. Conditions: in each theorem. -/
import Derived.Test.YtiknkbpojmgbhaaGreatViewL
import Derived.Test.YtiknkbpojmgbhaaGreatSortP
set_option maxHeartbeats 12800000
set_option maxRecDepth 100000
set_option linter.unusedVariables false
open Go.Proofs.Tryz
open Go.Lib (hid)
namespace Go.Proofs.YtiknkbpojmgbhaaGreat
open Go.RowKit Go.Maps Go.Sort Go.Shelf
section
variable{w w':World}{Y:Nat->Prop}{g n cap base:Nat}
theorem ZpD(W:World){A1 A2 B1 B2:Option Addr}{n1 k1 n2 k2 m1 l1 m2 l2 B B':Nat}{x y:List Int}(hx:RB W B A1 n1 x)(hy:RB W B' B1 m1 y)(hB:B<=W.heap.size)(hB':B'<=W.heap.size) :
 Calls prog 172 #[.agg #[.slice A1 n1 k1,.slice A2 n2 k2],.agg #[.slice B1 m1 l1,.slice B2 m2 l2]] W fun e w'=>e=.returned (.int .i64 (Lib.compareBytes (tx x) (tx y)))/\∃q os',w'=grow (W.drewN q) os':=by
 have hb1:Below W.heap.size W (W.alloc (.cells #[.slice A1 n1 k1,.slice A2 n2 k2] 101 (0,0))):=(Below.refl _ _).alloc (Nat.le_refl _) _;have hb2:Below W.heap.size W ((W.alloc (.cells #[.slice A1 n1 k1,.slice A2 n2 k2] 101 (0,0))).alloc (.cells #[.slice B1 m1 l1,.slice B2 m2 l2] 101 (0,0))):=hb1.alloc hb1.size _;have HC:=hid (Zpf k1 l1 (hx.below (hb2.mono hB)) (hy.below (hb2.mono hB')));generalize Lib.compareBytes (tx x) (tx y)=r at HC ⊢;clear hx hy hb1 hb2;go_enter func172,ntmps172;go_wp2_with fail;refine HC.out.mono ?_;rintro e w'⟨rfl,rfl⟩;go_wp2;go_ret;exact⟨rfl,0,_,by rw[alloc_eq_grow,alloc_eq_grow,grow_grow];rfl⟩
def SP(w:World)(Y:Nat->Prop):Type:={p:Value×Value×(Txt×List Int) // SV w Y p.1 (by_ p.2.2.1)/\SV w Y p.2.1 p.2.2.2}
instance spInh (w:World) (Y:Nat->Prop):Inhabited (SP w Y):=⟨⟨(.slice none 0 0,.slice none 0 0,[],[]),SV.nil_ _ _ _,SV.nil_ _ _ _⟩⟩
def ZeD{w:World}{Y:Nat->Prop}(p:SP w Y):List Value:=[p.1.1,p.1.2.1]
def ZfH{w:World}{Y:Nat->Prop}(p:SP w Y):Txt×List Int:=p.1.2.2
def ZqV{w:World}{Y:Nat->Prop}(p q:SP w Y):Int:=Lib.compareBytes (ZfH p).1 (ZfH q).1
theorem Zrf(w:World)(Y:Nat->Prop):SWO (ltOf (ZqV (w:=w) (Y:=Y))) where
 irrefl x:=by
  have:¬ZqV x x<0:=fun h=>ZC _ ((Zbw _ _).1 h)
  simp[ltOf,this]
 trans x y z h1 h2:=by
  simp only[ltOf,decide_eq_true_eq]at *;exact(Zbw _ _).2 (ZbD ((Zbw _ _).1 h1) ((Zbw _ _).1 h2))
 ntrans x y z h1 h2:=by
  simp only[ltOf,decide_eq_false_iff_not]at *;intro h3;have h3':=(Zbw _ _).1 h3;rcases tlt_tri (ZfH x).1 (ZfH y).1 with a|a|a
  · exact h1 ((Zbw _ _).2 a)
  · rw[a]at h3';exact h2 ((Zbw _ _).2 h3')
  · exact h2 ((Zbw _ _).2 (ZbD a h3'))
theorem ZfI{α:Type}[Inhabited α](enc:α->List Value)(k m:Nat)(w:World)(dk:Array α)(os:Array Obj):Za (fun k=>k=g) w (sortWorldK enc k w g 0 m dk os):=by
 refine⟨rfl,rfl,rfl,by simp[sortWorldK,putRowK,putRow,mapBlock,Sort.ahead,grow],fun j hj hne=>?_⟩
 show(grow (putRow id (Sort.ahead w m) g 0 (flatK enc k dk)) os).heap[j]?=_
 rw[heap_grow_old _ _ (by simpa using hj)]
 have:g≠j:=fun e=>hne e.symm
 simp[putRow,mapBlock,Sort.ahead,Array.getElem?_modify,this]
theorem ZpE(hY:Y g)(size:Nat):CmpLays prog 172 #[] (ZeD (w:=w) (Y:=Y)) 2 ZqV g 0 size w:=by
 intro m os dk hs x y;have ht:=ZfI (g:=g) (ZeD (w:=w) (Y:=Y)) 2 m w dk os;have hk:∀k,k<w.heap.size->¬Y k->(sortWorldK (ZeD (w:=w) (Y:=Y)) 2 w g 0 m dk os).heap[k]?=w.heap[k]?:=fun k hk hy=>ht.block k hk fun e=>hy (by rw[e];exact hY)
 obtain⟨⟨x1,x2,xk⟩,hx1,hx2⟩:=x;obtain⟨⟨y1,y2,yk⟩,hy1,hy2⟩:=y;have hx1':=hx1.keep ht.size (fun _ _ h=>h) hk;have hy1':=hy1.keep ht.size (fun _ _ h=>h) hk;obtain⟨A1,n1,k1,e1,_,_,r1,_⟩:=hx1';obtain⟨A2,n2,k2,e2⟩:=hx2.slice;obtain⟨B1,m1,l1,e3,_,_,r2,_⟩:=hy1';obtain⟨B2,m2,l2,e4⟩:=hy2.slice;have H:=ZpD (A2:=A2) (n2:=n2) (k2:=k2) (B2:=B2) (m2:=m2) (l2:=l2) (k1:=k1) (l1:=l1) _ r1 r2 (Nat.le_refl _) (Nat.le_refl _);rw[ZfJ,ZfJ]at H
 have ea:(#[Value.agg (ZeD (⟨(x1,x2,xk),hx1,hx2⟩:SP w Y)).toArray,Value.agg (ZeD (⟨(y1,y2,yk),hy1,hy2⟩:SP w Y)).toArray] ++ #[]:Array Value) = #[.agg #[.slice A1 n1 k1,.slice A2 n2 k2],.agg #[.slice B1 m1 l1,.slice B2 m2 l2]]:=by
  simp only at e1 e2 e3 e4;simp[ZeD,e1,e2,e3,e4]
 rw[ea];exact H
theorem Zrd:∀(ps:TL) (vs:List Value),vs.length=ps.length*2->(∀a x,ps[a]?=some x->ZcX w Y vs a (Zaq x))->∃ds:List (SP w Y),ds.map ZfH=ps/\ds.flatMap ZeD=vs
 | [],vs,hl,_=>⟨[],rfl,(List.eq_nil_of_length_eq_zero (by simpa using hl)).symm⟩
 | x::ps,vs,hl,h=>by
  obtain⟨u1,u2,e1,e2,s1,s2⟩:=h 0 x rfl;rcases vs with _|⟨v1,_|⟨v2,vs⟩⟩
  · simp at e1
  · simp at e2
  · obtain rfl:v1=u1:=by simpa using e1
    obtain rfl:v2=u2:=by simpa using e2
    obtain⟨ds,h1,h2⟩:=Zrd ps vs (by simp at hl;omega) (fun a y hy=>by
     obtain⟨w1,w2,f1,f2,f3⟩:=h (a+1) y (by simpa using hy);refine⟨w1,w2,?_,?_,f3⟩
     · rw[show(a+1)*2=a*2+1+1 by omega]at f1;simpa using f1
     · rw[show(a+1)*2+1=a*2+1+1+1 by omega]at f2
       simpa using f2)
    obtain⟨d,hd⟩:∃d:SP w Y,d.1=(v1,v2,x):=⟨⟨(v1,v2,x),s1,s2⟩,rfl⟩
    refine⟨d::ds,?_,?_⟩
    · rw[List.map_cons,h1];unfold ZfH;rw[hd]
    · rw[List.flatMap_cons,h2];unfold ZeD;rw[hd];rfl
theorem ZhU:∀(ds:List (SP w Y)) (t:Nat),t<ds.length*2->(ds.flatMap ZeD)[t]?=some ((ZeD (ds.getD (t/2) default))[t%2]!)
 | [],t,h=>by simp at h
 | d::ds,t,h=>by
  rw[List.flatMap_cons];rcases Nat.lt_or_ge t 2 with h2|h2
  · have:t=0∨t=1:=by omega
    rcases this with rfl|rfl <;> rfl
  · have ih:=ZhU ds (t-2) (by rw[List.length_cons]at h;omega);rw[List.getElem?_append_right (show(ZeD d).length<=t from h2),show t-(ZeD d).length=t-2 from rfl,ih];have e1:t/2=(t-2)/2+1:=by omega
    have e2:t%2=(t-2)%2:=by omega
    rw[e1,e2,List.getD_cons_succ]
theorem ZgO(ds:List (SP w Y)):(flatK ZeD 2 ds.toArray).toList=ds.flatMap ZeD:=by
 have hlen:∀ds:List (SP w Y),(ds.flatMap ZeD).length=ds.length*2:=by
  intro ds
  induction ds with
  | nil=>rfl
  | cons d ds ih=>rw[List.flatMap_cons,List.length_append,ih,List.length_cons,show(ZeD d).length=2 from rfl];omega
 apply List.ext_getElem?;intro t;rcases Nat.lt_or_ge t (ds.length*2)with h|h
 · rw[ZhU ds t h,Array.getElem?_toList,Array.getElem?_eq_getElem (by simpa using h)];have h1:=get_flatK (ZeD (w:=w) (Y:=Y)) 2 ds.toArray t (by simpa using h);rw[getElem!_pos _ t (by simpa using h)]at h1;rw[h1]
   congr 3
   have h2:t/2<ds.length:=by omega
   simp[List.getD,h2]
 · rw[List.getElem?_eq_none (by simpa using h),List.getElem?_eq_none (by rw[hlen];exact h)]
theorem Zjz{α:Type}[Inhabited α]{enc:α->List Value}{k m:Nat}{dk:Array α}{os:Array Obj}{cur:Array Value}{e:TypeId}{fr:Nat×Nat}(hb:w.heap[g]?=some (.cells cur e fr)) :
 (sortWorldK enc k w g 0 m dk os).heap[g]?=some (.cells (putCells id 0 (flatK enc k dk) cur) e fr):=by
 have hg:g<w.heap.size:=(Array.getElem?_eq_some_iff.1 hb).1
 show(grow (putRow id (Sort.ahead w m) g 0 (flatK enc k dk)) os).heap[g]?=_
 rw[heap_grow_old _ _ (by simpa using hg)];simp[putRow,mapBlock,Sort.ahead,Array.getElem?_modify,hb,onCells]
theorem ZfS(cur F:Array Value)(h:F.size<=cur.size):(putCells id 0 F cur).toList.take F.size=F.toList:=by
 apply List.ext_getElem?;intro j;by_cases hj:j<F.size
 · rw[List.getElem?_take_of_lt hj,Array.getElem?_toList,Array.getElem?_toList];simp[putCells,hj,show j<cur.size by omega]
 · rw[List.getElem?_take_eq_none (by omega),List.getElem?_eq_none (by simp;omega)]
theorem Zop{vs:List Value}{ps:TL}(hrow:ZbC w g n cap vs)(hl:ps.length=n)(hY:Y g)(hvs:∀a x,ps[a]?=some x->ZcX w Y vs a (Zaq x))(hn:n<=4294967296)(hdis:(ps.map (·.1)).Nodup) :
 Calls prog 171 #[.slice (some ⟨g,0,none⟩) n cap,.func (.func 172) #[] #[]] w fun e w'=>
  e=.returned (.tuple #[])/\∃ps':TL,ps'.Perm ps/\ZG ps'/\(∃vs',ZbC w' g n cap vs'/\∀a x,ps'[a]?=some x->ZcX w' Y vs' a (Zaq x))/\Za (fun k=>k=g) w w':=by
 obtain⟨ds,h1,h2⟩:=Zrd ps vs (by rw[hrow.len,hl]) hvs;have hdl:ds.length=n:=by rw[<-hl,<-h1,List.length_map]
 have hflat:=ZgO ds
 have hH:HoldsK ZeD 2 w g 0 ds.toArray:=by
  intro j hj;have hj':j<ds.length*2:=by simpa using hj
  have e:vs[j]?=some ((flatK ZeD 2 ds.toArray)[j]!):=by
   rw[<-h2,<-hflat,Array.getElem?_toList,Array.getElem?_eq_getElem hj,getElem!_pos _ j hj]
  refine⟨?_,?_⟩
  · rw[Nat.zero_add];exact hrow.cell e
  · rw[Nat.zero_add];exact hrow.frozen _
 have eg:∀args w,(callFunc 172 args).run prog w=.ok (.enter 172 args) w:=enters_of func172 (by kernel_rfl) rfl
 have hcon:=AnyQ.slices_SortFunc Tryz.sortP 2 Tryz.isAgg101 Tryz.sizeOf101 (ZeD (w:=w) (Y:=Y)) (fun _=>rfl) (fun x v hv=>by
  obtain⟨A1,n1,k1,e1⟩:=x.2.1.slice;obtain⟨A2,n2,k2,e2⟩:=x.2.2.slice;simp[ZeD]at hv;rcases hv with rfl|rfl
  · rw[e1];rfl
  · rw[e2];rfl) ZqV (Zrf w Y) 172 #[] g 0 cap ds.toArray w eg (ZpE hY _) hH hrow.lt (by simp;omega)
 change Calls prog 171 _ _ _ at hcon;have hsz:ds.toArray.size=n:=by simpa using hdl
 rw[hsz]at hcon;refine hcon.mono ?_;rintro e w'⟨rfl,d',m,os,hp,hsd,rfl⟩;have ht:=ZfI (g:=g) (ZeD (w:=w) (Y:=Y)) 2 m w d' os;have hd'n:d'.size=n:=by rw[hp.1];exact hsz
 have hperm:d'.toList.Perm ds:=by
  have h3:=hp.2.2;have a1:d'.extract 0 n=d':=by rw[<-hd'n];simp
  have a2:ds.toArray.extract 0 n=ds.toArray:=by rw[<-hsz];simp
  rw[a1,a2]at h3;simpa using h3
 have hpp:(d'.toList.map ZfH).Perm ps:=by rw[<-h1];exact hperm.map _
 refine⟨rfl,d'.toList.map ZfH,hpp,?_,⟨(flatK ZeD 2 d').toList,?_,fun a x hx=>?_⟩,ht⟩
 · have hnd:((d'.toList.map ZfH).map (·.1)).Nodup:=(hpp.map _).nodup_iff.2 hdis;rw[List.nodup_iff_pairwise_ne,List.pairwise_map]at hnd;refine List.pairwise_iff_getElem.2 fun i j hi hj hij=>?_
   have hne:=List.pairwise_iff_getElem.1 hnd i j hi hj hij;simp only[List.length_map,Array.length_toList]at hi hj;have hs:=hsd i j (Nat.zero_le _) hij (by omega);simp only[ltOf,decide_eq_false_iff_not]at hs;simp only[List.getElem_map,Array.getElem_toList]at hne ⊢;rw[getElem!_pos d' i hi,getElem!_pos d' j hj]at hs;rcases tlt_tri (ZfH d'[i]).1 (ZfH d'[j]).1 with a|a|a
   · exact a
   · exact absurd a hne
   · exact absurd ((Zbw _ _).2 a) hs
 · obtain⟨cur,r1,r2,r3,r4,r5⟩:=hrow;have hfs:(flatK (ZeD (w:=w) (Y:=Y)) 2 d').size=n*2:=by rw[size_flatK,hd'n]
   refine⟨_,Zjz r1,r2,r3,by simpa[putCells] using r4,?_⟩;rw[<-hfs];exact ZfS _ _ (by rw[hfs,r4];omega)
 · rw[List.getElem?_map]at hx;obtain⟨p,hp',rfl⟩:=Option.map_eq_some_iff.1 hx;have hal:=(List.getElem?_eq_some_iff.1 hp').1;have hfl:=ZgO d'.toList;rw[Array.toArray_toList]at hfl;rw[hfl];have hk:∀k,k<w.heap.size->¬Y k->(sortWorldK ZeD 2 w g 0 m d' os).heap[k]?=w.heap[k]?:=fun k hk hy=>ht.block k hk fun e=>hy (by rw[e];exact hY)
   have hg:d'.toList.getD a default=p:=by rw[List.getD_eq_getElem?_getD,hp'];rfl
   refine⟨p.1.1,p.1.2.1,?_,?_,p.2.1.keep ht.size (fun _ _ h=>h) hk,p.2.2.keep ht.size (fun _ _ h=>h) hk⟩
   · rw[ZhU _ _ (by omega),show a*2/2=a by omega,show a*2%2=0 by omega,hg];rfl
   · rw[ZhU _ _ (by omega),show(a*2+1)/2=a by omega,show(a*2+1)%2=1 by omega,hg];rfl
end
def Zcx(C:List (Txt×Option (List Int)))(p:Txt)(left:Txt->Bool)(ms:TL):Prop:=(ms.map (·.1)).Nodup/\∀q,q∈ms↔Zf C q.1=some (some q.2)/\p.isPrefixOf q.1=true/\left q.1=false
theorem Zcx.start(C:List (Txt×Option (List Int)))(p:Txt):Zcx C p (fun x=>(Zf C x).isSome) []:=⟨List.nodup_nil,fun q=>⟨fun h=>(by cases h),fun h=>by
 obtain⟨h1,_,h3⟩:=h
 simp[h1]at h3⟩⟩
theorem Zcx.step{C:List (Txt×Option (List Int))}{p x:Txt}{left:Txt->Bool}{ms:TL}{l:List Int}(h:Zcx C p left ms)(hx:Zf C x=some (some l))(hl:left x=true)(hp:p.isPrefixOf x=true):Zcx C p (fun z=>left z && !decide (z=x)) (ms++[(x,l)]):=by
 obtain⟨h1,h2⟩:=h
 have hno:∀q∈ms,q.1≠x:=fun q hq e=>by
  have:=((h2 _).1 hq).2.2
  rw[e,hl]at this;cases this
 refine⟨?_,fun q=>?_⟩
 · rw[List.map_append,List.nodup_append];refine⟨h1,by simp,fun a ha b hb e=>?_⟩;obtain⟨q,hq,rfl⟩:=List.mem_map.1 ha;simp at hb;exact hno q hq (e.trans hb)
 · rw[List.mem_append,List.mem_singleton,h2 q];constructor
   · rintro(⟨a,b,c⟩|rfl)
     · exact⟨a,b,by show(left q.1&&_)=false;rw[c];rfl⟩
     · exact⟨hx,hp,by simp⟩
   · rintro⟨a,b,c⟩;by_cases e:q.1=x
     · right;rw[e,hx]at a;exact Prod.ext e (Option.some.inj (Option.some.inj a)).symm
     · left;refine⟨a,b,?_⟩
       have:decide (q.1=x)=false:=by simpa using e
       have c':(left q.1 && !decide (q.1=x))=false:=c;rw[this]at c';simpa using c'
theorem Zcx.skip{C:List (Txt×Option (List Int))}{p x:Txt}{left:Txt->Bool}{ms:TL}(h:Zcx C p left ms)(hp:∀l,Zf C x=some (some l)->p.isPrefixOf x=false):Zcx C p (fun z=>left z && !decide (z=x)) ms:=by
 obtain⟨h1,h2⟩:=h;refine⟨h1,fun q=>?_⟩;rw[h2 q];constructor
 · rintro⟨a,b,c⟩;exact⟨a,b,by show(left q.1&&_)=false;rw[c];rfl⟩
 · rintro⟨a,b,c⟩;refine⟨a,b,?_⟩
   have:decide (q.1=x)=false:=by
    have:q.1≠x:=fun e=>by
     rw[e]at a b;rw[hp _ a]at b;cases b
    simpa using this
   have c':(left q.1 && !decide (q.1=x))=false:=c;rw[this]at c';simpa using c'
theorem Zmy{L M:TL}(hL:ZG L)(hM:ZG M)(h:∀q,q∈L↔q∈M):L=M:=by
 refine ZG.ext hL hM fun x=>?_
 cases hl:Zf L x with
 | none=>
  cases hm:Zf M x with
  | none=>rfl
  | some d=>exact absurd rfl (ZO.1 hl _ ((h _).2 (Zao hm)))
 | some d=>rw[hM.look ((h _).1 (Zao hl))]
theorem Zqr{S:VS}(h:S.Ok){p:Txt}{ps ms out:TL}(hps:ps.Perm (S.W.filter fun q=>p.isPrefixOf q.1))(hms:Zcx S.C p (fun _=>false) ms)(hout:out.Perm ((ps.filter fun q=>!(Zf S.C q.1).isSome)++ms))(hr:ZG out):out=S.scan p:=by
 refine Zmy hr (h.nowL.filter _) fun q=>?_
 unfold VS.scan;rw[hout.mem_iff,List.mem_append,List.mem_filter,hps.mem_iff,List.mem_filter,List.mem_filter,hms.2 q]
 have hnow:q∈S.nowL↔S.now q.1=some q.2:=by
  rw[<-h.look];exact⟨fun hq=>h.nowL.look hq,fun hq=>Zao hq⟩
 rw[hnow];unfold VS.now;have hW:q∈S.W↔Zf S.W q.1=some q.2:=⟨fun hq=>h.w.look hq,fun hq=>Zao hq⟩
 rw[hW]
 cases hc:Zf S.C q.1 with
 | none=>simp
 | some d=>
  cases d with
  | none=>simp
  | some l=>simp
theorem Zoq{S:VS}(h:S.Ok){p:Txt}{ps ms:TL}(hps:ps.Perm (S.W.filter fun q=>p.isPrefixOf q.1))(hms:Zcx S.C p (fun _=>false) ms):(((ps.filter fun q=>!(Zf S.C q.1).isSome)++ms).map (·.1)).Nodup:=by
 have hWn:(S.W.map (·.1)).Nodup:=by
  rw[List.nodup_iff_pairwise_ne,List.pairwise_map];exact h.w.imp fun {a b} h e=>by rw[e]at h;exact ZC _ h
 have h1:((ps.filter fun q=>!(Zf S.C q.1).isSome).map (·.1)).Nodup:=by
  have h2:(ps.map (·.1)).Nodup:=(hps.map _).nodup_iff.2 ((List.filter_sublist.map _).nodup hWn);exact(List.filter_sublist.map _).nodup h2
 rw[List.map_append,List.nodup_append];refine⟨h1,hms.1,fun a ha b hb e=>?_⟩;obtain⟨q,hq,rfl⟩:=List.mem_map.1 ha;obtain⟨r,hr,rfl⟩:=List.mem_map.1 hb;have h3:=(List.mem_filter.1 hq).2;have h4:=((hms.2 r).1 hr).1;have e':q.1=r.1:=e;rw[e',h4]at h3;cases h3
section
variable{w w':World}{X Y:Nat->Prop}{v m c:Nat}{S:VS}
theorem Za8.base_le{β:Type}{R:World->(Nat->Prop)->List Value->β->Prop}{e:TypeId}{size base base':Nat}{u:Value}{l:List β}(h:Za8 R e size w Y base u l)(hb:base'<=base):Za8 R e size w Y base' u l:=by
 obtain⟨⟨vs,h1,h2⟩,h3⟩:=h;refine⟨⟨vs,?_,h2⟩,h3⟩;rcases h1.2 with h'|⟨g,cap,cur,hv,hg,hh⟩
 · exact⟨h1.1,.inl h'⟩
 · exact⟨h1.1,.inr ⟨g,cap,cur,hv,Nat.le_trans hb hg,hh⟩⟩
theorem ZpF(w:World)(k:Nat)(fv:Value):Calls prog 168 #[.slice none 0 k,fv] w fun e w'=>e=.returned (.slice none 0 k)/\w=w':=by
 have HI:Calls prog 230 #[.slice none 0 k,fv] w fun e w'=>e=.returned (.int .i64 (-1))/\w=w':=by
  go_enter func230,ntmps230;go_wp2_with fail;refine wp_loop_rounds 1 ?_;rw[rounds_succ];go_wp2;go_ret;exact⟨rfl,rfl⟩
 have HI:=hid HI;go_enter func168,ntmps168;go_wp2_with fail;refine HI.out.mono ?_;rintro e w'⟨rfl,rfl⟩;go_wp2;go_ret;exact⟨rfl,rfl⟩
theorem Zor(w:World)(k:Nat)(fv:Value):Calls prog 171 #[.slice none 0 k,fv] w fun e w'=>e=.returned (.tuple #[])/\w'=w:=by
 have h:=AnyF.slices_SortFunc_none Tryz.sortP none k fv w;change Calls prog 171 _ _ _ at h;exact h
theorem Zos(h:Ze w X v m c S){w2:World}{bx r base:Nat}(hb:Below w.heap.size w w2)(hbx:w2.cell? ⟨bx,0,none⟩=some (.pointer (some ⟨v,0,none⟩)))(hbl:bx<base)(hrb:r<base)(hwr:w.heap.size<=r){ps:TL}{A:Option Addr}{k:Nat}(hrow:Zy w2 r base (.slice A ps.length k) (ps.map Zaq))(hn:ps.length<=4294967295) :
 Calls prog 168 #[.slice A ps.length k,.func (.func 169) #[] #[.pointer (some ⟨bx,0,none⟩)]] w2 fun e w'=>∃n' k',e=.returned (.slice A n' k')/\n'=(ps.filter fun q=>!(Zf S.C q.1).isSome).length/\Zy w' r base (.slice A n' k') ((ps.filter fun q=>!(Zf S.C q.1).isSome).map Zaq)/\Below base w2 w':=by
 rcases A with _|ad
 · have h0:ps = []:=by
    obtain⟨Y,⟨⟨vs,h1,_⟩,_⟩,_⟩:=hrow;rcases h1.2 with ⟨e,h0⟩|⟨g,cap,cur,e,_⟩
    · rw[List.length_map]at h0;exact List.eq_nil_of_length_eq_zero h0
    · cases e
   subst h0;refine(ZpF w2 k _).mono ?_;rintro e w'⟨rfl,rfl⟩;exact⟨0,k,rfl,rfl,hrow,Below.refl _ _⟩
 · obtain⟨Y,h1,h2,h3,h4,h5⟩:=hrow
   obtain⟨g,hg⟩:∃g,ad=⟨g,0,none⟩:=by
    obtain⟨⟨vs,h1,_⟩,_⟩:=h1;rcases h1.2 with ⟨e,h0⟩|⟨g,cap,cur,e,_⟩
    · cases e
    · injection e with e1 _ _;exact⟨g,Option.some.inj e1⟩
   subst hg;have hgb:base<=g:=(h1.at_ g rfl).1;have hYg:Y g:=h1.own g rfl
   have hP:Zq6 w2 g bx Y (fun x=>(Zf S.C (tx x.1)).isSome):=by
    intro W u1 u2 x ht s1 s2;have h2':Ze w2 (fun k=>X k∨(w.heap.size<=k/\k<w2.heap.size)) v m c S:=h.keep hb.size (fun k hk hx hh=>by rcases hh with a|a;exact hx a;omega) (fun k hk=>.inl hk) (fun k hk=>by rcases hk with a|a;exact Nat.lt_of_lt_of_le (h.lt k a) hb.size;exact a.2) (fun k hk _=>hb.block k hk)
    have hW:Ze W (fun k=>X k∨(w.heap.size<=k/\k<w2.heap.size)) v m c S:=h2'.keep ht.size (fun _ _ h=>h) (fun _ h=>h) (fun k hk=>Nat.lt_of_lt_of_le (h2'.lt k hk) ht.size) (fun k hk hh=>ht.block k hk fun e=>by
     have hgl:=h4 g hYg;rcases hh with a|a|a|a
     · have:=h.lt v h.xv;omega
     · have:=h.lt m h.xm;omega
     · have:=h.lt c h.xc;omega
     · exact a (.inr ⟨by omega,hk⟩))
    have hbx':W.cell? ⟨bx,0,none⟩=some (.pointer (some ⟨v,0,none⟩)):=by
     rw[World.cell?_of_block (a:=⟨bx,0,none⟩) (ht.block bx (World.block_lt_of_cell? _ _ hbx) (by omega))];exact hbx
    obtain⟨A1,n1,k1,rfl,_,z1,z2,_⟩:=s1;obtain⟨A2,n2,k2,rfl⟩:=s2.slice;exact Zqq hW hbx' (World.block_lt_of_cell? _ _ hbx') z2 (Nat.le_refl _) (by unfold maxLen;omega)
   have hlen:ps.length=(ps.map Zaq).length:=by rw[List.length_map]
   have hD:=ZpC h1 h4 hP (by omega)
   have hfil:(ps.map Zaq).filter (fun x=>!(Zf S.C (tx x.1)).isSome)=(ps.filter fun q=>!(Zf S.C q.1).isSome).map Zaq:=by
    rw[List.filter_map]
    congr 1
    refine List.filter_congr fun q _=>?_
    show(!(Zf S.C (tx (by_ q.1))).isSome)=_
    rw[ZfJ]
   refine hD.mono ?_;rintro e w'⟨rfl,hG,ht⟩;rw[hfil,List.length_map]at hG ⊢;exact⟨_,_,rfl,rfl,⟨Y,hG,h2,h3,fun k hk=>Nat.lt_of_lt_of_le (h4 k hk) ht.size,h5⟩,ht.below (fun k e=>by rw[e];exact hgb) (by have:=h4 g hYg;omega)⟩
theorem Zy.rebase{r base r2:Nat}{u:Value}{P:List KV}(h:Zy w r base u P)(hb:Below w.heap.size w w')(h2:w.heap.size<=r2)(h3:r2<w'.heap.size)(hrb:r<=base):Zy w' r2 r u P:=by
 obtain⟨Y,g1,g2,g3,g4,g5⟩:=h;have hown:∀k,u.ownBlock=some k->k<w.heap.size:=fun k hk=>(g1.at_ k hk).2
 refine⟨fun k=>Y k∨k=r2,((g1.base_le hrb).keep @ZV hb.size (fun k hk hy hh=>?_) (fun k hk _=>hb.block k hk) (fun k hk=>⟨hb.block k (hown k hk),.inl (g1.own k hk)⟩)),.inr rfl,fun k hk=>?_,fun k hk=>?_,fun e=>?_⟩
 · rcases hh with a|a
   · exact hy a
   · omega
 · rcases hk with a|a
   · rcases g3 k a with b|b
     · left;omega
     · left;omega
   · exact .inr a
 · rcases hk with a|a
   · exact Nat.lt_of_lt_of_le (g4 k a) hb.size
   · omega
 · have:=hown r2 e
   omega
theorem Zmz(hok:S.Ok){base r2:Nat}{A:Option Addr}{n k:Nat}{p:Txt}{ps ms:TL}(hrow:Zy w r2 base (.slice A n k) (((ps.filter fun q=>!(Zf S.C q.1).isSome)++ms).map Zaq))(hps:ps.Perm (S.W.filter fun q=>p.isPrefixOf q.1))(hms:Zcx S.C p (fun _=>false) ms)(hn:((ps.filter fun q=>!(Zf S.C q.1).isSome)++ms).length<=4294967296) :
 Calls prog 171 #[.slice A n k,.func (.func 172) #[] #[]] w fun e w'=>e=.returned (.tuple #[])/\n<=k/\Zat w' w'.heap.size A n ((S.scan p).map Zaq)/\RowKit.Below base w w':=by
 obtain⟨L,hL⟩:∃L:TL,L=(ps.filter fun q=>!(Zf S.C q.1).isSome)++ms:=⟨_,rfl⟩
 have hkeys:=Zoq hok hps hms;have his:=fun out (h1:out.Perm L) (h2:ZG out)=>Zqr hok hps hms (by rw[<-hL];exact h1) h2
 rw[<-hL]at hrow hn hkeys;obtain⟨Y,h1,h2,h3,h4,h5⟩:=hrow;rcases A with _|ad
 · have h0:L = []/\n=0:=by
    obtain⟨⟨vs,g1,_⟩,_⟩:=h1;rcases g1.2 with ⟨e,h0⟩|⟨g,cap,cur,e,_⟩
    · rw[List.length_map]at h0;injection e with _ e2 _;exact⟨List.eq_nil_of_length_eq_zero h0,e2⟩
    · cases e
   obtain⟨rfl,rfl⟩:=h0;refine(Zor w k _).mono ?_;rintro e w'⟨rfl,rfl⟩;rw[<-his [] (List.Perm.refl _) List.Pairwise.nil];exact⟨rfl,Nat.zero_le _,Zat.nil_,RowKit.Below.refl _ _⟩
 · obtain⟨g,hg⟩:∃g,ad=⟨g,0,none⟩:=by
    obtain⟨⟨vs,g1,_⟩,_⟩:=h1;rcases g1.2 with ⟨e,h0⟩|⟨g,cap,cur,e,_⟩
    · cases e
    · injection e with e1 _ _;exact⟨g,Option.some.inj e1⟩
   subst hg;obtain⟨hl,hbg,hY,vs,hr,hvs⟩:=h1.open_;rw[List.length_map]at hl;have hS:=Zop (ps:=L) hr hl.symm hY (fun a x hx=>hvs a (Zaq x) (by rw[List.getElem?_map,hx];rfl)) (by omega) hkeys;refine hS.mono ?_;rintro e w'⟨rfl,ps',hp',hri,⟨vs',hr',hv'⟩,ht⟩
   have hG:Za8 Zc9 101 2 w' Y base (.slice (some ⟨g,0,none⟩) (ps'.map Zaq).length k) (ps'.map Zaq):=Za8.shut hr' (by rw[List.length_map,hp'.length_eq];omega) hbg hY (fun a x hx=>by
    rw[List.getElem?_map]at hx;obtain⟨q,hq,rfl⟩:=Option.map_eq_some_iff.1 hx
    exact hv' a q hq)
   have hnl:(ps'.map Zaq).length=n:=by rw[List.length_map,hp'.length_eq];exact hl.symm
   rw[hnl]at hG;obtain⟨_,g2,g3⟩:=hG.pairs;rw[his ps' hp' hri]at g3;exact⟨rfl,g2,g3,ht.below (fun k e=>by rw[e];exact hbg) (by have:=h4 g hY;omega)⟩
theorem ZjA(h:Ze w X v m c S)(hWf:S.W.length<=2147483647)(hWk:∀p∈S.W,p.1.length<=140737488355328)(hCf:S.C.length<=32767)(hCk:∀p∈S.C,p.1.length<=140737488355328){A:Option Addr}{n k B:Nat}{l:List Int}(hr:RB w B A n l)(hB:B<=w.heap.size) :
 Calls prog 84 #[.pointer (some ⟨v,0,none⟩),.slice A n k] w fun e w'=>∃A' n' k',e=.returned (.slice A' n' k')/\n'<=k'/\Zat w' w'.heap.size A' n' ((S.scan (tx l)).map Zaq)/\Below w.heap.size w w':=by
 obtain⟨w1,hw1⟩:∃w1,w1=w.alloc (.cells #[.pointer (some ⟨v,0,none⟩)] 26 (0,0)):=⟨_,rfl⟩
 have hb1:Below w.heap.size w w1:=by rw[hw1];exact(Below.refl _ _).alloc (Nat.le_refl _) _
 have hs1:w1.heap.size=w.heap.size+1:=by rw[hw1];simp
 have hbk:w1.heap[w.heap.size]?=some (.cells #[.pointer (some ⟨v,0,none⟩)] 26 (0,0)):=by rw[hw1];exact heap_alloc_new _ _
 have hbx:w1.cell? ⟨w.heap.size,0,none⟩=some (.pointer (some ⟨v,0,none⟩)):=by rw[cell_of_row w1 _ 0 _ _ (0,0) hbk];rfl
 have h1:=h.below hb1;have hr1:=hr.below (hb1.mono hB);obtain⟨d0,d1,d2,_⟩:=h1.cells;have HE:=hid (ZhR h1);have HS:=hid (ZkL (k:=k) h1.mem h1.ok.w h1.lt (by omega) hWk hr1);have H1:=hid h1;have HR1:=hid hr1;have HB1:=hid (And.intro hb1 (And.intro hs1 hbx));have HF:=hid (And.intro hWf (And.intro hCf hCk))
 have hm : ∀ n (w : World), (method (n + 1) 160 (.map (some m)) "Scan").run prog w = .ok (491, .map (some m)) w := fun n w => by kernel_rfl
 obtain⟨bx,hbxe⟩:∃bx,bx=w.heap.size:=⟨_,rfl⟩
 have HBX:=hid hbxe;rw[<-hbxe]at hbx HB1;clear hb1 hbk h1 hr1 h hr hWf hWk hCf hCk hs1;go_enter func84,ntmps84;go_wp2_with fail;rw[<-hw1,<-hbxe];clear hw1 hbxe;refine HE.out.mono ?_;rintro e w1'⟨rfl,rfl⟩;go_wp2_with fail;refine HS.out.mono ?_;rintro e w2⟨u,ps,rfl,hrow2,hps,hb2⟩;have h2:=H1.out.below hb2;have HMe:=hid (ZdD h2);have hbx2:w2.cell? ⟨bx,0,none⟩=some (.pointer (some ⟨v,0,none⟩)):=(hb2.cell (p:=⟨bx,0,none⟩) (by have:=HB1.out.2.1;show bx<w1.heap.size;omega)).trans hbx
 have hpl:ps.length<=S.W.length:=by
  rw[hps.length_eq];exact List.length_filter_le _ _
 have hsh:=hrow2.shape;rw[List.length_map]at hsh;obtain⟨PA,PK,rfl⟩:=hsh;have HD:=hid (Zos H1.out hb2 hbx2 (base:=w1.heap.size+1) (by have:=HB1.out.2.1;omega) (by omega) (Nat.le_refl _) hrow2 (by have:=HF.out.1;omega));have H2:=hid h2;have HP:=hid (And.intro hps (And.intro hpl hb2));clear hrow2 hps hpl hb2 h2;go_wp2_with fail;refine HMe.out.mono ?_;rintro e w2'⟨rfl,rfl⟩;go_wp2_with fail;refine HD.out.mono ?_;rintro e w3⟨n',k',rfl,hn',hrow3,hb3⟩;obtain⟨hps,hpl,hb12⟩:=HP.out;have hb13:RowKit.Below w1.heap.size w1 w3:=hb12.trans (hb3.mono (Nat.le_succ _));obtain⟨l1,hl1⟩:∃l1:TL,l1=ps.filter fun q=>!(Zf S.C q.1).isSome:=⟨_,rfl⟩
 rw[<-hl1]at hn' hrow3
 have hl1len:l1.length<=2147483647:=by
  have:=HF.out.1
  rw[hl1]
  have:=List.length_filter_le (fun q=>!(Zf S.C q.1).isSome) ps
  omega
 have hrB:B<=w1.heap.size:=by have:=HB1.out.1.size;omega
 have hconv:(convert 99 9 (.slice A n k)).run prog w3=.ok (encStr (tx l)) w3:=(HR1.out.below (hb13.mono hrB)).conv k;have hbx3:w3.cell? ⟨bx,0,none⟩=some (.pointer (some ⟨v,0,none⟩)):=(hb13.cell (p:=⟨bx,0,none⟩) (by have:=HB1.out.2.1;show bx<w1.heap.size;omega)).trans hbx;have h3:=H1.out.below hb13;obtain⟨f0,f1,f2,_⟩:=h3.cells;obtain⟨f,hS1,hf⟩:=H1.out.chg;have hcl:c<w1.heap.size:=H1.out.chg.lt;have hS3:=hS1.of_block (hb13.block c hcl);obtain⟨w4,cnt0,hrange,hR4,hcnt0,hg4,hs4⟩:=hS3.range underlying125;have hb34:RowKit.Below w3.heap.size w3 w4:=(RowKit.Below.refl _ _).grown hg4 (Nat.le_refl _) (fun k h=>by cases h)
 have hleft0:(fun x=>(f x).isSome)=fun x=>(Zf S.C x).isSome:=by
  funext x
  cases hl:Zf S.C x with
  | none=>rw[(hf x).1 hl];rfl
  | some d=>obtain⟨u,e,_⟩:=(hf x).2 d hl;rw[e];rfl
 rw[hleft0]at hR4
 have HMAP:=hid (show ∀W,RowKit.Below w1.heap.size w1 W->∀x y,f x=some y->∃d,Zf S.C x=some d/\Zd3 W X y d from by
  intro W hW x y hx
  cases hl:Zf S.C x with
  | none=>rw[(hf x).1 hl]at hx;cases hx
  | some d=>
   obtain⟨u,e,hu⟩:=(hf x).2 d hl;rw[e]at hx;cases hx
   exact⟨d,rfl,hu.keep hW.size (fun _ _ h=>h) (fun k hk _=>hW.block k hk)⟩)
 have hrow4:Zy w4 w3.heap.size w1.heap.size (.slice PA n' k') (l1.map Zaq):=hrow3.rebase hb34 (Nat.le_refl _) (by omega) (Nat.le_succ _);obtain⟨r2,hr2⟩:∃r2,r2=w3.heap.size:=⟨_,rfl⟩
 have hr1r2:w1.heap.size<=r2:=by rw[hr2];exact hb13.size
 have H0:=hid (show Za0 w4 c r2 S.C.length f (fun x=>(Zf S.C x).isSome) cnt0/\Zy w4 r2 w1.heap.size (.slice PA n' k') ((l1++[]).map Zaq)/\Zcx S.C (tx l) (fun x=>(Zf S.C x).isSome) []/\RowKit.Below w1.heap.size w1 w4/\([]:TL).length+cnt0<=S.C.length from
  ⟨by rw[hr2];exact hR4,by rw[List.append_nil,hr2];exact hrow4,Zcx.start _ _,hb13.trans (hb34.mono hb13.size),by simpa using hcnt0⟩)
 have HL1:=hid (And.intro hl1 (And.intro hl1len hps));rw[<-hr2]at hrange;generalize hpst:encStr (tx l)=pst at hconv;have HPST:=hid hpst;clear hn' hrow3 hb3 hps hpl hb12 hb13 hl1 hl1len hrB h3 hS1 hf hS3 hR4 hcnt0 hg4 hs4 hb34 hleft0 hrow4 hr2 hpst d0 d1 d2 hbx hbx2;go_wp2_with fail
 go_loopw[5] (fun u wr=>∃(left:Txt->Bool) (cnt:Nat) (ms:TL),Hid (Za0 wr c r2 S.C.length f left cnt/\Zy wr r2 w1.heap.size u ((l1++ms).map Zaq)/\Zcx S.C (tx l) left ms/\RowKit.Below w1.heap.size w1 wr/\ms.length+cnt<=S.C.length)) (fun _ wr=>wr.rangeLeft c r2)
 case atStart=>exact⟨_,_,[],H0⟩
 case round=>
  obtain⟨left,cnt,ms,HR⟩:=hrel;obtain⟨hR,hrow,hC,hbel,hcnt⟩:=HR.out;rcases hR.next 0 with ⟨h0,hl0,hnext⟩|⟨x,y,w5,cnt1,hxl,hlx,hfx,hnext,hR1,hlt,hg1,hs1,hen⟩
  · obtain⟨hl1,hl1len,hps⟩:=HL1.out;have hleft:left=fun _=>false:=funext hl0
    rw[hleft]at hC;have hml:ms.length<=32767:=by have:=HF.out.2.1;omega
    have hsh:=hrow.shape;obtain⟨A5,k5,rfl⟩:=hsh;have hrow':=hrow;rw[hl1]at hrow';have HSo:=hid (Zmz H1.out.ok hrow' hps hC (by rw[<-hl1,List.length_append];omega));rw[<-hl1]at HSo;have HBE:=hid hbel;generalize (List.map Zaq (l1++ms)).length=n5 at HSo ⊢;clear hR hrow hrow' hC hbel hcnt hl1 hl1len hps hleft hl0 hml HR;go_wp2_with fail;refine HSo.out.mono ?_;rintro e w9⟨rfl,hk9,hP9,hb9⟩
    have HFIN:=hid (And.intro hk9 (And.intro hP9 (show RowKit.Below w.heap.size w w9 from by
     have b1:=HB1.out.1;rw[HBX.out]at b1
     exact b1.trans ((HBE.out.trans hb9).mono b1.size))))
    clear hk9 hP9 hb9;go_wp2;go_ret;exact⟨A5,n5,k5,rfl,HFIN.out⟩
  · have hrs:r2<wr.heap.size:=hR.lt;have hbel1:RowKit.Below w1.heap.size w1 w5:=hbel.grown hg1 (by have:=hbel.size;omega) (fun k e=>by injection e with e;omega);have hrow1:=hrow.turned hg1;obtain⟨d,hd,hch⟩:=HMAP.out w5 hbel1 x y hfx;have hkl:=HF.out.2.2 _ (Zao hd);have HML:=hR.left_eq;have hsh:=hrow.shape;obtain⟨UN,UK,rfl⟩:=hsh;cases d with
    | none=>
     obtain⟨A3,n3,k3,hy3⟩:∃(A3:Option Addr) (n3 k3:Nat),y=.agg #[.bool false,.slice A3 n3 k3]:=⟨none,0,0,hch⟩
     subst hy3;have hX6:RowKit.Below w5.heap.size w5 (w5.alloc (.cells #[.bool false,.slice A3 n3 k3] 199 (0,0))):=(RowKit.Below.refl _ _).alloc (Nat.le_refl _) _
     have HN:=hid (show Za0 (w5.alloc (.cells #[.bool false,.slice A3 n3 k3] 199 (0,0))) c r2 S.C.length f (fun z=>left z && !decide (z=x)) cnt1/\Zy (w5.alloc (.cells #[.bool false,.slice A3 n3 k3] 199 (0,0))) r2 w1.heap.size (.slice UN (List.map Zaq (l1++ms)).length UK) ((l1++ms).map Zaq)/\Zcx S.C (tx l) (fun z=>left z && !decide (z=x)) ms/\RowKit.Below w1.heap.size w1 (w5.alloc (.cells #[.bool false,.slice A3 n3 k3] 199 (0,0)))/\ms.length+cnt1<=S.C.length from
      ⟨hR1.keep (hX6.block c (by have:=hbel1.size;omega)) (hX6.block r2 hR1.lt),hrow1.below hX6,hC.skip (fun l' e=>by rw[hd]at e;cases e),hbel1.trans (hX6.mono hbel1.size),by omega⟩)
     have HLT:=hid (And.intro hlt (And.intro HML HN.out.1.left_eq));generalize encStr x=st at hnext hen;generalize (List.map Zaq (l1++ms)).length=n5 at HN ⊢;clear hR hrow hC hbel hcnt hR1 hrow1 hg1 hs1 hd hch hkl hlt HML hX6 hbel1 HR;go_wp2;go_roundw
     case rel=>exact⟨_,_,_,HN⟩
     case measure=>obtain⟨q1,q2,q3⟩:=HLT.out;rw[q2,q3];exact q1
    | some val=>
     obtain⟨u3,rfl,hsv⟩:=hch;obtain⟨A3,n3,k3,rfl,_,z2,z3,_⟩:=hsv;obtain⟨w6,hw6⟩:∃w6,w6=w5.alloc (.cells #[.bool true,.slice A3 n3 k3] 199 (0,0)):=⟨_,rfl⟩
     have hX6:RowKit.Below w5.heap.size w5 w6:=by rw[hw6];exact(RowKit.Below.refl _ _).alloc (Nat.le_refl _) _
     have hbk6:w6.heap[w5.heap.size]?=some (.cells #[.bool true,.slice A3 n3 k3] 199 (0,0)):=by rw[hw6];exact heap_alloc_new _ _
     have g0:w6.cell? ⟨w5.heap.size,0,none⟩=some (.bool true):=by rw[cell_of_row w6 _ 0 _ _ (0,0) hbk6];rfl
     have g1:w6.cell? ⟨w5.heap.size,1,none⟩=some (.slice A3 n3 k3):=by rw[cell_of_row w6 _ 1 _ _ (0,0) hbk6];rfl
     have hR6:=hR1.keep (hX6.block c (by have:=hbel1.size;omega)) (hX6.block r2 hR1.lt);have hrow6:=hrow1.below hX6;have hbel6:=hbel1.trans (hX6.mono hbel1.size);have HPre:=hid (ZgN x (tx l) w6);rw[HPST.out]at HPre
     cases hpre:(tx l).isPrefixOf x with
     | false=>
      have HN:=hid (show Za0 w6 c r2 S.C.length f (fun z=>left z && !decide (z=x)) cnt1/\Zy w6 r2 w1.heap.size (.slice UN (List.map Zaq (l1++ms)).length UK) ((l1++ms).map Zaq)/\Zcx S.C (tx l) (fun z=>left z && !decide (z=x)) ms/\RowKit.Below w1.heap.size w1 w6/\ms.length+cnt1<=S.C.length from
       ⟨hR6,hrow6,hC.skip (fun l' _=>hpre),hbel6,by omega⟩)
      have HLT:=hid (And.intro hlt (And.intro HML hR6.left_eq));rw[hpre]at HPre;generalize encStr x=st at hnext hen HPre;generalize (List.map Zaq (l1++ms)).length=n5 at HN ⊢;clear hR hrow hC hbel hcnt hR1 hrow1 hg1 hs1 hd hkl hlt HML hX6 hbel1 HR hR6 hrow6 hbel6 z3 hbk6;go_wp2_with fail;rw[<-hw6];clear hw6;refine HPre.out.mono ?_;rintro e w7⟨rfl,rfl⟩;go_wp2;go_roundw
      case rel=>exact⟨_,_,_,HN⟩
      case measure=>obtain⟨q1,q2,q3⟩:=HLT.out;rw[q2,q3];exact q1
     | true=>
      have HPO:=hid (ZcV w6 x hkl (k:=k3) (z3.below hX6) hX6.size z2);have HLN:=hid (show(l1++ms).length<=4294967296 by rw[List.length_append];have:=HL1.out.2.1;have:=HF.out.2.1;omega);have hC1:=hC.step hd hlx hpre;have HC:=hid (And.intro hC1 (And.intro (show(ms++[(x,val)]).length+cnt1<=S.C.length by rw[List.length_append];simp;omega) (And.intro hbel6 (And.intro hrow6 (And.intro hR6 (And.intro (show r2<w6.heap.size from Nat.lt_of_lt_of_le hR1.lt hX6.size) (show((l1++ms).map Zaq).length<=4294967296 by rw[List.length_map,List.length_append];have:=HL1.out.2.1;have:=HF.out.2.1;omega)))))));have HLT:=hid (And.intro hlt HML);rw[hpre]at HPre;generalize encStr x=st at hnext hen HPre HPO;generalize (List.map Zaq (l1++ms)).length=n5 at HC ⊢;clear hR hrow hC hbel hcnt hR1 hrow1 hg1 hs1 hd hkl hlt HML hX6 hbel1 HR hR6 hrow6 hbel6 z3 hbk6 hC1;go_wp2_with fail;rw[<-hw6];clear hw6;refine HPre.out.mono ?_;rintro e w7⟨rfl,rfl⟩;go_wp2_with fail;refine HPO.out.mono ?_;rintro e w7⟨x1,x2,rfl,hx1,hx2,hb7⟩;obtain⟨c1,c2,c3,c4,c5,c6,c7⟩:=HC.out;have hX8:RowKit.Below w7.heap.size w7 (w7.alloc (.cells #[x1,x2] 101 (0,0))):=(RowKit.Below.refl _ _).alloc (Nat.le_refl _) _;have hb8:=hb7.trans (hX8.mono hb7.size);obtain⟨v',w9,hrun,hR9,hb9,hg9,ho9⟩:=c4.push (x:=Zaq (x,val)) hb8 (hx1.keep hX8.size (fun _ _ h=>h) (fun k hk _=>hX8.block k hk)) (hx2.keep hX8.size (fun _ _ h=>h) (fun k hk _=>hX8.block k hk)) (heap_alloc_new _ _) (by rw[List.length_map];exact HLN.out) (by have:=hb8.size;have:=c3.size;have:=HB1.out.2.1;omega) 128;have hne:(Value.slice UN n5 UK).ownBlock≠some r2:=by obtain⟨Y,_,_,_,_,q⟩:=c4;exact q
      have hb69:RowKit.Below w1.heap.size w6 w9:=(hb8.mono c3.size).trans hb9
      have HN:=hid (show Za0 w9 c r2 S.C.length f (fun z=>left z && !decide (z=x)) cnt1/\Zy w9 r2 w1.heap.size v' ((l1++(ms++[(x,val)])).map Zaq)/\Zcx S.C (tx l) (fun z=>left z && !decide (z=x)) (ms++[(x,val)])/\RowKit.Below w1.heap.size w1 w9/\(ms++[(x,val)]).length+cnt1<=S.C.length from
       ⟨c5.keep (hb69.block c hcl) ((hg9.block r2 (Nat.lt_of_lt_of_le c6 hb8.size) (fun e=>hne e.symm)).trans (hb8.block r2 c6)),by rw[<-List.append_assoc,List.map_append];exact hR9,c1,c3.trans hb69,c2⟩)
      have HLE:=hid HN.out.1.left_eq;have HRUN:=hid hrun;obtain⟨B1,m1,o1,rfl,_⟩:=hx1;obtain⟨B2,m2,o2,rfl,_⟩:=hx2;clear hX8 hb8 hR9 hb9 hg9 ho9 hb69 hb7 c1 c2 c3 c4 c5 c6 c7 hrun hne
      go_wp2_with (at_builtin;refine Lib.wpList_append_run _ rfl _ _ _ _ rfl _ _ rfl rfl _ _ HRUN.out ?_)
      go_roundw
      case rel=>exact⟨_,_,_,HN⟩
      case measure=>obtain⟨q1,q2⟩:=HLT.out;rw[q2,HLE.out];exact q1
end
end Go.Proofs.YtiknkbpojmgbhaaGreat
