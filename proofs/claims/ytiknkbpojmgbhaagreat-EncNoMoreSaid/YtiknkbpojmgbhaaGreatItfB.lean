/- Zfk, Zbv, LinB, LinM, LinC, LinEq, LinD, ItfA, ItfB. Conditions: in each theorem. -/
import Derived.Test.YtiknkbpojmgbhaaGreatBase
import Derived.Maps.OwnSet
import Derived.Maps.OwnOps
import Derived.Maps.RangeWalk
import Derived.Sort.KeysCollected
import Derived.Test.YtiknkbpojmgbhaaGreatPreD
import Derived.Test.YtiknkbpojmgbhaaGreatSortL
import Derived.Lib.AppendZeros
import Derived.BigQuiet
import Derived.Laws.StructEq
import Derived.Lib.AppendZerosOnto
import Derived.Deep.RegionHeld3
set_option maxHeartbeats 1600000
set_option maxRecDepth 100000
set_option linter.unusedVariables false
open Go.Proofs.Tryz
open Go.Lib (hid)
namespace Go.Proofs.YtiknkbpojmgbhaaGreat
open Go.RowKit Go.Maps Go.ChangeMaps Go.MapKept
def Zds(v:Value):Option (DataW Value×List MemPlace):=some (.held v,[])
theorem Zhk:Keyed prog 3:=int_keyed underlying3
theorem ZnD{i:Int}(h : -9223372036854775808<=i/\i<=9223372036854775807):keyOf prog 3 (.int .i64 i)=some (.int .i64 i):=
 keyOf_int_mk underlying3 (WalkArith.wf_i64 (by omega))
def Zfk(w:World)(b n:Nat)(f:Int->Option Value):Prop:=
 ∃D:DataW Value,w.ownsMap prog 3 Zds b n D/\∀i:Int,Maps.has D (.int .i64 i)=(f i).isSome/\∀v z,f i=some v->D.atKey (.int .i64 i) z=.held v
section
variable{w w':World}{b n:Nat}{f:Int->Option Value}
theorem Zfk.made(w:World):Zfk (w.alloc (.map #[] 0)) w.heap.size 0 (fun _=>none):=
 ⟨_,World.ownsMap_made w _ _ _,fun i=>⟨rfl,fun v z h=>by cases h⟩⟩
theorem Zfk.lt(h:Zfk w b n f):b<w.heap.size:=by
 obtain⟨D,h1,_⟩:=h;exact h1.lt
theorem Zfk.of_block(h:Zfk w b n f)(e:w'.heap[b]?=w.heap[b]?):Zfk w' b n f:=by
 obtain⟨D,⟨es,c,hb,rest⟩,hf⟩:=h;exact⟨D,⟨es,c,e.trans hb,rest⟩,hf⟩
theorem Zfk.congr(h:Zfk w b n f){g:Int->Option Value}(e:∀i,f i=g i):Zfk w b n g:=by
 obtain⟨D,h1,hf⟩:=h;exact⟨D,h1,fun i=>by rw[<-e i];exact hf i⟩
theorem ZiH{D:DataW Value}{k:Lit}(h:Maps.has D k=false)(z:DataW Value):D.atKey k z=z:=Maps.atKey_of_not_has h z
theorem Zfk.store(h:Zfk w b n f){t e:TypeId}(ht:prog.underlying t=some (.map 3 e))(hn:n<maxLen){i:Int}(hi : -9223372036854775808<=i/\i<=9223372036854775807)(u:Value) :
 ∃w',(Instr.mapUpdate t (.map (some b)) (.int .i64 i) u).run prog w=.ok () w'/\Zfk w' b (n+1) (fun j=>if j=i then some u else f j)/\w.grownBy w' (some b):=by
 obtain⟨D,h1,hf⟩:=h;obtain⟨w',hrun,h2,h3⟩:=h1.update Zhk ht hn (ZnD hi) (show Zds u=some (.held u,[])from rfl);refine⟨w',hrun,⟨_,h2,fun j=>?_⟩,h3⟩;by_cases e:j=i
 · subst e;show Maps.has _ _=(if j=j then some u else f j).isSome/\∀v z,(if j=j then some u else f j)=some v->_;rw[if_pos rfl];refine⟨has_put_same h1.isMap (by trivial) _,fun v z hv=>?_⟩;cases hv;exact atKey_put_same h1.isMap (by trivial) _ _
 · show Maps.has _ _=(if j=i then some u else f j).isSome/\∀v z,(if j=i then some u else f j)=some v->_;rw[if_neg e];have hne:(Lit.int IntKind.i64 j)≠Lit.int IntKind.i64 i:=fun h=>e (by injection h)
   rw[has_put_other hne];refine⟨(hf j).1,fun v z hv=>?_⟩;rw[atKey_put_other hne];exact(hf j).2 v z hv
end
end Go.Proofs.YtiknkbpojmgbhaaGreat
namespace Go.Proofs.YtiknkbpojmgbhaaGreat
open Go.RowKit Go.Maps Go.ChangeMaps Go.MapKept Go.WideMaps
theorem ZiI{v:Value}{y:DataW Value×List MemPlace}(h:Zds v=some y):y=(.held v,[]):=(Option.some.inj h).symm
theorem Zhl{kv:Value}{kl:Lit}(h:keyOf prog 3 kv=some kl):∃i:Int,kv=.int .i64 i/\kl=.int .i64 i/\-9223372036854775808<=i/\i<=9223372036854775807:=by
 have hk:=underlying3
 cases kv <;> simp[keyOf,hk,mapKey]at h
 obtain⟨⟨rfl,hw⟩,rfl⟩:=h;refine⟨_,rfl,rfl,?_⟩;simp[Lit.wf,IntKind.min,IntKind.max,IntKind.signed,IntKind.bits]at hw;omega
def Zbv(w:World)(b r n:Nat)(f:Int->Option Value)(left:Int->Bool)(cnt:Nat):Prop:=
 ∃(D:DataW Value) (lf:Lit->Bool),w.ranges prog 3 Zds b r n D lf cnt/\(∀i:Int,Maps.has D (.int .i64 i)=(f i).isSome/\∀v z,f i=some v->D.atKey (.int .i64 i) z=.held v)/\∀x,lf (.int .i64 x)=left x
section
variable{w w':World}{b r n cnt:Nat}{f:Int->Option Value}{left:Int->Bool}
theorem Zfk.range(h:Zfk w b n f){t e:TypeId}(ht:prog.underlying t=some (.map 3 e)) :
 ∃w' cnt,(Instr.range t (.map (some b))).run prog w=.ok (.pointer (some ⟨w.heap.size,0,none⟩)) w'/\Zbv w' b w.heap.size n f (fun x=>(f x).isSome) cnt/\cnt<=n/\w.grownBy w' none/\w'.heap.size=w.heap.size+1:=by
 obtain⟨D,h1,hf⟩:=h;obtain⟨w',hrun,h2,h3,h4⟩:=h1.range Zhk ht;exact⟨w',_,hrun,⟨D,_,h2,hf,fun x=>(hf x).1⟩,h1.size_le,h3,h4⟩
theorem Zfk.getD(h:Zfk w b n f){t e:TypeId}(ht:prog.underlying t=some (.map 3 e)){z:Value}(hz:(zeroValue e).run prog w=.ok z w){i:Int}(hi : -9223372036854775808<=i/\i<=9223372036854775807) :
 (Instr.lookup t (.map (some b)) (.int .i64 i) false).run prog w=.ok ((f i).getD z) w:=by
 obtain⟨D,h1,hf⟩:=h;obtain⟨v,ps,hrun,hv⟩:=h1.lookup Zhk ht hz (show Zds z=some (.held z,[])from rfl) (ZnD hi);obtain⟨hh,ha⟩:=hf i;rw[hrun]
 have hv':DataW.held v=D.atKey (.int .i64 i) (.held z):=by
  have:=Option.some.inj hv
  exact congrArg Prod.fst this
 rcases hfi:f i with _|u
 · rw[hfi]at hh;rw[ZiH hh]at hv'
   cases hv';rfl
 · rw[ha u _ hfi]at hv'
   cases hv';rfl
theorem Zbv.lt(h:Zbv w b r n f left cnt):r<w.heap.size:=by
 obtain⟨D,lf,h1,_⟩:=h;exact h1.lt
theorem Zbv.left_eq(h:Zbv w b r n f left cnt):w.rangeLeft b r=cnt:=by
 obtain⟨D,lf,h1,_⟩:=h;exact h1.left_eq
theorem Zbv.keep(h:Zbv w b r n f left cnt)(e1:w'.heap[b]?=w.heap[b]?)(e2:w'.heap[r]?=w.heap[r]?):Zbv w' b r n f left cnt:=by
 obtain⟨D,lf,⟨es,clock,since,seen,c0,hb,F,hs,hD,hr,rest⟩,hf,hl⟩:=h;exact⟨D,lf,⟨es,clock,since,seen,c0,e1.trans hb,F,hs,hD,e2.trans hr,rest⟩,hf,hl⟩
theorem Zbv.next(h:Zbv w b r n f left cnt)(ty:TypeId) :
 (cnt=0/\(∀x,left x=false)/\(Instr.next (.pointer (some ⟨r,0,none⟩)) false ty).run prog w=.ok (.tuple #[.bool false]) w)∨
 ∃x v w' cnt',(-9223372036854775808<=x/\x<=9223372036854775807)/\left x=true/\f x=some v/\(Instr.next (.pointer (some ⟨r,0,none⟩)) false ty).run prog w=.ok (.tuple #[.bool true,.int .i64 x,v]) w'/\
  Zbv w' b r n f (fun z=>left z && !decide (z=x)) cnt'/\cnt'<cnt/\w.grownBy w' (some r)/\w'.heap.size=w.heap.size/\(Instr.entry (.pointer (some ⟨r,0,none⟩))).run prog w'=.ok (.tuple #[.int .i64 x,v]) w':=by
 obtain⟨D,lf,h1,hf,hl⟩:=h;rcases h1.next Zhk ty with ⟨h0,hn,hrun⟩|⟨key,v,kl,y,w',cnt',hkey,hlk,hv,hat,hrun,hrg,hlt,hgr,hsz,hen⟩
 · exact .inl ⟨h0,fun x=>by rw[<-hl x];exact hn _,hrun⟩
 · obtain⟨x,rfl,rfl,hx⟩:=Zhl hkey;obtain rfl:=ZiI hv;refine .inr ⟨x,v,w',cnt',hx,by rw[<-hl x];exact hlk,?_,hrun,⟨D,_,hrg,hf,fun z=>?_⟩,hlt,hgr,hsz,hen⟩
   · rcases hfx:f x with _|u
     · have h2:=hat (.map []);have h3:=(hf x).1;rw[hfx]at h3;rw[ZiH h3]at h2;cases h2
     · have h2:=hat (.map []);rw[(hf x).2 u _ hfx]at h2
       cases h2;rfl
   · show(lf (.int .i64 z) && !(Lit.int .i64 z).sameKey (.int .i64 x))=_
     rw[hl z]
     congr 2
     rw[Bool.eq_iff_iff];simp[Lit.sameKey]
end
end Go.Proofs.YtiknkbpojmgbhaaGreat
namespace Go.Proofs.YtiknkbpojmgbhaaGreat
open Go.RowKit Go.Maps
def Zhm(L:FL)(i:Int):Option Value:=(lookF L i).map (Value.int .i64)
theorem ZnE{l:List Ln}{j:Nat}{x:Ln}(h:l[j]?=some x)(hx:B64 x.a)(i:Int):Zhm (fundsOf (l.take (j+1))) i=if i=x.f then some (.int .i64 (IntKind.i64.wrap ((lookF (fundsOf (l.take j)) x.f).getD 0+x.a)))else Zhm (fundsOf (l.take j)) i:=by
 obtain⟨hj,rfl⟩:=List.getElem?_eq_some_iff.1 h;unfold Zhm;rw[List.take_succ_eq_append_getElem hj,ZaN,ZeN _ _ _ (Zba _) hx]
 split <;> rfl
theorem ZnF(L:FL)(i:Int):(Zhm L i).getD (.int .i64 0)=.int .i64 ((lookF L i).getD 0):=by
 unfold Zhm
 cases lookF L i <;> rfl
theorem Zo8(w:World):(zeroValue 3).run prog w=.ok (.int .i64 0) w:=by kernel_rfl
section
variable{w w':World}{A:Option Addr}{n k B:Nat}{l:List Ln}
theorem Zo9(hr:RL w B A n l)(hB:B<=w.heap.size)(hn:n<=2147483647) :
 Calls prog 312 #[.slice A n k] w fun e w'=>∃b,e=.returned (.map (some b))/\w.heap.size<=b/\Zfk w' b n (Zhm (fundsOf l))/\Below w.heap.size w w':=by
 have HR:=hid (And.intro hr (And.intro hB hn));have h0:Zfk (w.alloc (.map #[] 0)) w.heap.size 0 (Zhm (fundsOf (l.take 0))):=(Zfk.made w).congr fun i=>by rw[List.take_zero];rfl
 have HM:=hid (And.intro h0 ((Below.refl w.heap.size w).alloc (Nat.le_refl _) (.map #[] 0)));obtain⟨m,hm⟩:∃m,m=w.heap.size:=⟨_,rfl⟩
 rw[<-hm]at HM;have HMM:=hid hm;clear hr hB h0;have hmk:=@run_makeMap prog;go_enter func312,ntmps312;go_wp2_with fail;rw[<-hm];clear hm
 go_loopw[9] (fun i wr=>∃j:Nat,j<=n/\i=.int .i64 j/\Hid (Zfk wr m j (Zhm (fundsOf (l.take j)))/\Below m w wr)) (fun i _=>n-(intOf i).toNat)
 case atStart=>exact⟨0,Nat.zero_le _,rfl,HM⟩
 case round=>
  obtain⟨j,hj,rfl,HI⟩:=hrel;by_cases hlt:j<n
  · have hlt':(j:Int)<(n:Int):=by omega
    obtain⟨x,hx⟩:∃x,l[j]?=some x:=⟨_,List.getElem?_eq_getElem (by rw[HR.out.1.len];exact hlt)⟩
    have hok:=HR.out.1.ok x (List.mem_of_getElem? hx);obtain⟨hi,hb⟩:=HI.out;obtain⟨b,off,rfl,hbB,hat⟩:=HR.out.1.2.2 (by omega);obtain⟨c0,c1,c2,c3⟩:=(hat j x hx).keep hbB (fun b o hbb=>hb.cell (p:=⟨b,o,none⟩) (by rw[HMM.out];exact Nat.lt_of_lt_of_le hbb HR.out.2.1));obtain⟨xf,xo,xn,xa⟩:=x;obtain⟨w3,hw3⟩:∃w3,w3=wr.alloc (.cells #[.int .i64 xf,.int .i64 xo,.int .i64 xn,.int .i64 xa] 34):=⟨_,rfl⟩
    have hb3:Below m w w3:=by rw[hw3];exact hb.alloc (by rw[HMM.out];exact hb.size) _
    have hi3:Zfk w3 m j (Zhm (fundsOf (l.take j))):=hi.of_block (by rw[hw3];exact heap_alloc_old _ _ hi.lt);have hlook:=hi3.getD underlying333 (Zo8 w3) (i:=xf) hok.1;rw[ZnF]at hlook;have q0:w3.cell? ⟨wr.heap.size,0,none⟩=some (.int .i64 xf):=by rw[hw3];exact cell_of_row _ _ 0 _ _ (0,0) (heap_alloc_new wr _)
    have q3:w3.cell? ⟨wr.heap.size,3,none⟩=some (.int .i64 xa):=by rw[hw3];exact cell_of_row _ _ 3 _ _ (0,0) (heap_alloc_new wr _)
    have hstep:=ZnE hx hok.2.2.2;generalize (lookF (fundsOf (l.take j)) xf).getD 0=s at hlook hstep;obtain⟨z,hz⟩:∃z,IntKind.i64.wrap (s+xa)=z:=⟨_,rfl⟩
    rw[hz]at hstep;obtain⟨w5,hrun,hi5,hg5⟩:=hi3.store underlying333 (by have:=HR.out.2.2;unfold maxLen;omega) (i:=xf) hok.1 (.int .i64 z);have HE:=hid (And.intro (hi5.congr fun i=>(hstep i).symm) (hb3.grown hg5 (by rw[HMM.out];exact hb3.size) (fun k hk=>by injection hk with hk;rw[<-hk];exact Nat.le_refl _)));clear hx hok hi hb hat hb3 hi3 hi5 hg5 hstep HI;rw[hw3]at hlook hrun q0 q3;clear hw3;go_wp2_with fail;go_roundw
    case rel=>exact⟨j+1,by omega,by go_num,HE⟩
    case measure=>simp[intOf];omega
  · obtain rfl:j=n:=by omega
    have HE:=HI;clear HI;go_wp2;go_ret;obtain⟨h1,h2⟩:=HE.out;rw[List.take_of_length_le (by rw[HR.out.1.len];exact Nat.le_refl _)]at h1;exact⟨m,rfl,by rw[HMM.out];exact Nat.le_refl _,h1,by rw[<-HMM.out];exact h2⟩
end
end Go.Proofs.YtiknkbpojmgbhaaGreat
namespace Go.Proofs.YtiknkbpojmgbhaaGreat
open Go.RowKit Go.Maps Go.Sort Go.Shelf
instance lnInh:Inhabited Ln:=⟨⟨0,0,0,0⟩⟩
def cmpZ(x y:Int):Int:=if x<y then -1 else if y<x then 1 else 0
def Zl1(x y:Ln):Int:=cmpZ x.f y.f
theorem Zcn(x y:Int):cmpZ x y<0↔x<y:=by
 unfold cmpZ;split
 · simp;omega
 · split
   · simp;omega
   · simp;omega
theorem Zgp(x:Int)(w:World):Calls prog 318 #[.int .i64 x] w fun e w'=>e=.returned (.bool false)/\w=w':=by
 go_enter func318,ntmps318;go_wp2;go_ret;exact⟨rfl,rfl⟩
theorem Zpa(x y:Int)(w:World):Calls prog 315 #[.int .i64 x,.int .i64 y] w fun e w'=>e=.returned (.int .i64 (cmpZ x y))/\w=w':=by
 have HX:=hid (Zgp x);have HY:=hid (Zgp y);unfold cmpZ;by_cases h1:x<y
 · rw[if_pos h1];go_enter func315,ntmps315;go_wp2_with fail;refine(HX.out _).mono ?_;rintro e w1⟨rfl,rfl⟩;go_wp2_with fail;refine(HY.out _).mono ?_;rintro e w1⟨rfl,rfl⟩;go_wp2;go_ret;exact⟨rfl,rfl⟩
 · rw[if_neg h1];by_cases h2:y<x
   · rw[if_pos h2];go_enter func315,ntmps315;go_wp2_with fail;refine(HX.out _).mono ?_;rintro e w1⟨rfl,rfl⟩;go_wp2_with fail;refine(HY.out _).mono ?_;rintro e w1⟨rfl,rfl⟩;go_wp2;go_ret;exact⟨rfl,rfl⟩
   · rw[if_neg h2];go_enter func315,ntmps315;go_wp2_with fail;refine(HX.out _).mono ?_;rintro e w1⟨rfl,rfl⟩;go_wp2_with fail;refine(HY.out _).mono ?_;rintro e w1⟨rfl,rfl⟩;go_wp2;go_ret;exact⟨rfl,rfl⟩
theorem ZnG(W:World)(x y:Ln) :
 Calls prog 314 #[.agg #[.int .i64 x.f,.int .i64 x.o,.int .i64 x.n,.int .i64 x.a],.agg #[.int .i64 y.f,.int .i64 y.o,.int .i64 y.n,.int .i64 y.a]] W fun e w'=>e=.returned (.int .i64 (Zl1 x y))/\∃q os',w'=grow (W.drewN q) os':=by
 obtain⟨xf,xo,xn,xa⟩:=x;obtain⟨yf,yo,yn,ya⟩:=y;have HC:=hid (Zpa xf yf);unfold Zl1;simp only;generalize cmpZ xf yf=r at HC ⊢;go_enter func314,ntmps314;go_wp2_with fail;refine(HC.out _).mono ?_;rintro e w'⟨rfl,rfl⟩;go_wp2;go_ret;exact⟨rfl,0,_,by rw[alloc_eq_grow,alloc_eq_grow,grow_grow];rfl⟩
theorem Zre:SWO (ltOf Zl1) where
 irrefl x:=by
  have:¬Zl1 x x<0:=fun h=>by have:=(Zcn _ _).1 h;omega
  simp[ltOf,this]
 trans x y z h1 h2:=by
  simp only[ltOf,decide_eq_true_eq]at *;have a:=(Zcn _ _).1 h1;have b:=(Zcn _ _).1 h2;exact(Zcn _ _).2 (by omega)
 ntrans x y z h1 h2:=by
  simp only[ltOf,decide_eq_false_iff_not]at *;intro h3;have c:=(Zcn _ _).1 h3;by_cases a:x.f<y.f
  · exact h1 ((Zcn _ _).2 a)
  · exact h2 ((Zcn _ _).2 (by omega))
theorem ZnH(g size:Nat)(w:World):CmpLays prog 314 #[] lnV 4 Zl1 g 0 size w:=by
 intro m os dk hs x y;exact ZnG _ x y
theorem Zld:∀(ds:List Ln) (t:Nat),t<ds.length*4->(Zdl ds)[t]?=some ((lnV (ds.getD (t/4) default))[t%4]!)
 | [],t,h=>by simp at h
 | d::ds,t,h=>by
  show(lnV d++Zdl ds)[t]?=_
  rcases Nat.lt_or_ge t 4 with h2|h2
  · have:t=0∨t=1∨t=2∨t=3:=by omega
    rcases this with rfl|rfl|rfl|rfl <;> rfl
  · have ih:=Zld ds (t-4) (by rw[List.length_cons]at h;omega);rw[List.getElem?_append_right (show(lnV d).length<=t from h2),show t-(lnV d).length=t-4 from rfl,ih];have e1:t/4=(t-4)/4+1:=by omega
    have e2:t%4=(t-4)%4:=by omega
    rw[e1,e2,List.getD_cons_succ]
theorem Zfl(ds:List Ln):(flatK lnV 4 ds.toArray).toList=Zdl ds:=by
 apply List.ext_getElem?;intro t;rcases Nat.lt_or_ge t (ds.length*4)with h|h
 · rw[Zld ds t h,Array.getElem?_toList,Array.getElem?_eq_getElem (by simpa using h)];have h1:=get_flatK lnV 4 ds.toArray t (by simpa using h);rw[getElem!_pos _ t (by simpa using h)]at h1;rw[h1]
   congr 3
   have h2:t/4<ds.length:=by omega
   simp[List.getD,h2]
 · rw[List.getElem?_eq_none (by simpa using h),List.getElem?_eq_none (by rw[Za4];exact h)]
section
variable{w:World}{g m:Nat}{dk:Array Ln}{os:Array Obj}{cur:Array Value}{e:TypeId}{fr:Nat×Nat}
theorem ZiJ(hb:w.heap[g]?=some (.cells cur e fr)) :
 (sortWorldK lnV 4 w g 0 m dk os).heap[g]?=some (.cells (putCells id 0 (flatK lnV 4 dk) cur) e fr):=by
 have hg:g<w.heap.size:=(Array.getElem?_eq_some_iff.1 hb).1
 show(grow (putRow id (Sort.ahead w m) g 0 (flatK lnV 4 dk)) os).heap[g]?=_
 rw[heap_grow_old _ _ (by simpa using hg)];simp[putRow,mapBlock,Sort.ahead,Array.getElem?_modify,hb,onCells]
theorem Zhn{base:Nat}(hg:base<=g)(hgl:g<w.heap.size):Below base w (sortWorldK lnV 4 w g 0 m dk os):=by
 refine⟨rfl,rfl,rfl,by simp[sortWorldK,putRowK,putRow,mapBlock,Sort.ahead,grow],fun j hj=>?_⟩;rcases Nat.lt_or_ge j w.heap.size with h|h
 · show(grow (putRow id (Sort.ahead w m) g 0 (flatK lnV 4 dk)) os).heap[j]?=_
   rw[heap_grow_old _ _ (by simpa using h)]
   have:g≠j:=by omega
   simp[putRow,mapBlock,Sort.ahead,Array.getElem?_modify,this]
 · omega
theorem ZfO(cur F:Array Value)(h:F.size<=cur.size):(putCells id 0 F cur).toList.take F.size=F.toList:=by
 apply List.ext_getElem?;intro j;by_cases hj:j<F.size
 · rw[List.getElem?_take_of_lt hj,Array.getElem?_toList,Array.getElem?_toList];simp[putCells,hj,show j<cur.size by omega]
 · rw[List.getElem?_take_eq_none (by omega),List.getElem?_eq_none (by simp;omega)]
end
theorem Zl2{w:World}{base:Nat}{u:Value}{l:List Ln}(h:Z8 w base u l)(hl:l.length<=2147483647)(hdis:(l.map Ln.f).Nodup)(hB:base<=w.heap.size) :
 Calls prog 313 #[u,.func (.func 314) #[] #[]] w fun e w'=>e=.returned (.tuple #[])/\∃l':List Ln,l'.Perm l/\l'.Pairwise (fun x y=>x.f<y.f)/\Z8 w' base u l'/\Below base w w':=by
 rcases h.2 with ⟨rfl,h0⟩|⟨g,cap,cur,rfl,hb,hg,hc,hcm,hsz,htake⟩
 · obtain rfl:=List.eq_nil_of_length_eq_zero h0;refine(AnyF.slices_SortFunc_none Tryz.sortL none 0 (.func (.func 314) #[] #[]) w).mono ?_;rintro e w'⟨rfl,rfl⟩;exact⟨rfl,[],List.Perm.refl _,List.Pairwise.nil,h,Below.refl _ _⟩
 · have hflat:=Zfl l
   have hcell:∀k u,(Zdl l)[k]?=some u->w.cell? ⟨g,k,none⟩=some u:=fun k u hu=>by
    have hk:=(List.getElem?_eq_some_iff.1 hu).1;rw[Za4]at hk;rw[cell_of_row w g k cur _ (0,0) hg,<-hu,<-htake,List.getElem?_take,if_pos (by omega)];simp
   have hH:HoldsK lnV 4 w g 0 l.toArray:=by
    intro j hj
    have e:(Zdl l)[j]?=some ((flatK lnV 4 l.toArray)[j]!):=by
     rw[<-hflat,Array.getElem?_toList,Array.getElem?_eq_getElem hj,getElem!_pos _ j hj]
    refine⟨?_,?_⟩
    · rw[Nat.zero_add];exact hcell _ _ e
    · rw[Nat.zero_add];exact frozen_of_row w g _ _ _ hg
   have eg:∀args w,(callFunc 314 args).run prog w=.ok (.enter 314 args) w:=enters_of func314 (by kernel_rfl) rfl;have hcon:=AnyQ.slices_SortFunc Tryz.sortL 4 Tryz.isAgg34 Tryz.sizeOf34 lnV (fun _=>rfl) (fun x v hv=>Zlj [x] v (by simpa[Zdl] using hv)) Zl1 Zre 314 #[] g 0 cap l.toArray w eg (ZnH g _ w) hH (Array.getElem?_eq_some_iff.1 hg).1 (by simp;omega);change Calls prog 313 _ _ _ at hcon;have hsz0:l.toArray.size=l.length:=by simp
   rw[hsz0]at hcon;refine hcon.mono ?_;rintro e w'⟨rfl,d',m,os,hp,hsd,rfl⟩;have hd'n:d'.size=l.length:=by rw[hp.1];exact hsz0
   have hperm:d'.toList.Perm l:=by
    have h3:=hp.2.2;have a1:d'.extract 0 l.length=d':=by rw[<-hd'n];simp
    have a2:l.toArray.extract 0 l.length=l.toArray:=by rw[<-hsz0];simp
    rw[a1,a2]at h3;simpa using h3
   have hlen:d'.toList.length=l.length:=by simpa using hd'n
   refine⟨rfl,d'.toList,hperm,?_,?_,Zhn hb (Array.getElem?_eq_some_iff.1 hg).1⟩
   · have hnd:(d'.toList.map Ln.f).Nodup:=(hperm.map _).nodup_iff.2 hdis;rw[List.nodup_iff_pairwise_ne,List.pairwise_map]at hnd;refine List.pairwise_iff_getElem.2 fun i j hi hj hij=>?_
     have hne:=List.pairwise_iff_getElem.1 hnd i j hi hj hij;simp only[Array.length_toList]at hi hj;have hs:=hsd i j (Nat.zero_le _) hij (by omega);simp only[ltOf,decide_eq_false_iff_not]at hs;simp only[Array.getElem_toList]at hne ⊢;rw[getElem!_pos d' i hi,getElem!_pos d' j hj]at hs;by_cases a:d'[i].f<d'[j].f
     · exact a
     · exact absurd ((Zcn _ _).2 (show d'[j].f<d'[i].f by omega)) hs
   · have hfs:(flatK lnV 4 d').size=l.length*4:=by rw[size_flatK,hd'n]
     refine⟨by rw[Za4],Or.inr ⟨g,cap,_,by rw[hlen],hb,ZiJ hg,by rw[hlen];exact hc,hcm,by simpa[putCells] using hsz,?_⟩⟩;have hfl:=Zfl d'.toList;rw[Array.toArray_toList]at hfl;rw[hlen,<-hfl,<-hfs];exact ZfO _ _ (by rw[hfs,hsz];omega)
end Go.Proofs.YtiknkbpojmgbhaaGreat
namespace Go.Proofs.YtiknkbpojmgbhaaGreat
open Go.RowKit Go.Maps
def Zfm(L:FL)(left:Int->Bool)(ps:FL):Prop:=ps.Nodup/\∀q,q∈ps↔q∈L/\left q.1=false
theorem ZnI{L:FL}{x:Int}{v:Value}(h:Zhm L x=some v):∃s,v=.int .i64 s/\lookF L x=some s:=by
 unfold Zhm at h;obtain⟨s,h1,h2⟩:=Option.map_eq_some_iff.1 h;exact⟨s,h2.symm,h1⟩
theorem Zfm.start{L:FL}(h:Zc1 L):Zfm L (fun x=>(Zhm L x).isSome) []:=⟨List.nodup_nil,fun q=>⟨fun h=>(by cases h),fun⟨h1,h3⟩=>by
 have h4:(Zhm L q.1).isSome=false:=h3;unfold Zhm at h4;rw[h.look h1]at h4
 cases h4⟩⟩
theorem Zfm.step{L:FL}{x s:Int}{left:Int->Bool}{ps:FL}(h:Zfm L left ps)(hL:Zc1 L)(hx:lookF L x=some s)(hl:left x=true):Zfm L (fun z=>left z && !decide (z=x)) (ps++[(x,s)]):=by
 obtain⟨h1,h2⟩:=h
 have hno:(x,s)∉ps:=fun hm=>by
  have:=((h2 _).1 hm).2
  rw[hl]at this;cases this
 refine⟨?_,fun q=>?_⟩
 · rw[List.nodup_append];refine⟨h1,List.nodup_cons.2 ⟨by simp,List.nodup_nil⟩,fun a ha b hb e=>?_⟩;obtain rfl:=List.mem_singleton.1 hb;rw[e]at ha;exact hno ha
 · rw[List.mem_append,List.mem_singleton,h2 q];constructor
   · rintro(⟨a,c⟩|rfl)
     · exact⟨a,by show(left q.1&&_)=false;rw[c];rfl⟩
     · exact⟨ZeO hx,by simp⟩
   · rintro⟨a,c⟩;by_cases e:q.1=x
     · right;have h3:=hL.look a;rw[e,hx]at h3;exact Prod.ext e (Option.some.inj h3).symm
     · left;refine⟨a,?_⟩
       have:decide (q.1=x)=false:=by simpa using e
       have c':(left q.1 && !decide (q.1=x))=false:=c;rw[this]at c';simpa using c'
theorem Zfm.done{L:FL}{left:Int->Bool}{ps:FL}(h:Zfm L left ps)(hL:Zc1 L)(h0:∀x,left x=false):ps.Perm L:=by
 obtain⟨h1,h2⟩:=h;refine(List.perm_ext_iff_of_nodup h1 hL.nodup).2 fun q=>?_
 rw[h2 q];exact⟨fun⟨a,_⟩=>a,fun a=>⟨a,h0 _⟩⟩
theorem Zfn{L:FL}(h:Zc1 L):(L.map ZT).Pairwise (fun x y=>x.f<y.f):=by
 rw[List.pairwise_map];exact h
theorem ZnJ{L:FL}(h:∀p∈L,B64 p.1/\B64 p.2):∀x∈L.map ZT,Za7 x:=by
 intro x hx;obtain⟨p,hp,rfl⟩:=List.mem_map.1 hx;exact⟨(h p hp).1,by show B64 0;unfold B64;omega,by show B64 0;unfold B64;omega,(h p hp).2⟩
section
variable{w w':World}{A:Option Addr}{n k B:Nat}{l:List Ln}
theorem ZnK(hr:RL w B A n l)(hB:B<=w.heap.size)(hn:n<=2147483647) :
 Calls prog 303 #[.slice A n k] w fun e w'=>∃u,e=.returned u/\Z8 w' w.heap.size u ((fundsOf l).map ZT)/\Below w.heap.size w w':=by
 have HS:=hid (Zo9 (k:=k) hr hB hn);have HR:=hid (And.intro (Zba l) (And.intro (ZaO l hr.ok) (show(fundsOf l).length<=n by rw[<-hr.len];exact Zah l)));generalize fundsOf l=L at HS HR ⊢;clear hr hB;go_enter func303,ntmps303;go_wp2_with fail;refine HS.out.mono ?_;rintro e w1⟨m,rfl,hm0,hm,hb1⟩;obtain⟨w2,cnt0,hrange,hR0,hcnt0,hg0,hs0⟩:=hm.range underlying333;have hb2:Below w1.heap.size w1 w2:=(Below.refl _ _).grown hg0 (Nat.le_refl _) (fun k h=>by cases h);have hml:=hm.lt;obtain⟨r,hrr⟩:∃r,r=w1.heap.size:=⟨_,rfl⟩
 have hst:Zbv w2 m w1.heap.size n (Zhm L) (fun x=>(Zhm L x).isSome) cnt0/\Z8 w2 (w1.heap.size+1) (.slice none 0 0) (([]:FL).map ZT)/\Zfm L (fun x=>(Zhm L x).isSome) []/\Below w1.heap.size w1 w2/\([]:FL).length+cnt0<=n:=⟨hR0,Z8.start _ _,Zfm.start HR.out.1,hb2,by simpa using hcnt0⟩
 have H0:=hid hst;have HB1:=hid (And.intro hb1 (And.intro hm0 hml));rw[<-hrr]at hrange H0;have HRR:=hid hrr;clear hm hm0 hb1 hR0 hcnt0 hg0 hs0 hb2 hml hst HS hrr;go_wp2_with fail
 go_loopw[3] (fun u wr=>∃(left:Int->Bool) (cnt:Nat) (ps:FL),Hid (Zbv wr m r n (Zhm L) left cnt/\Z8 wr (r+1) u (ps.map ZT)/\Zfm L left ps/\Below r w1 wr/\ps.length+cnt<=n)) (fun _ wr=>wr.rangeLeft m r)
 case atStart=>exact⟨_,_,_,H0⟩
 case round=>
  obtain⟨left,cnt,ps,HRW⟩:=hrel;obtain⟨hR,hrow,hC,hbel,hcnt⟩:=HRW.out;obtain⟨PA,PK,hu,_⟩:=hrow.shape;rw[List.length_map]at hu;subst hu;rcases hR.next 0 with ⟨h0,hl0,hnext⟩|⟨x,y,w3,cnt1,hxl,hlx,hfx,hnext,hR1,hlt,hg1,hs1,hen⟩
  · have hperm:=hC.done HR.out.1 hl0
    have hsort:=Zl2 hrow (by rw[List.length_map];omega) (by
     have h1:((L.map ZT).map Ln.f).Nodup:=by
      rw[List.nodup_iff_pairwise_ne,List.pairwise_map];exact(Zfn HR.out.1).imp fun {a b} h e=>by omega
     exact((hperm.map ZT).map Ln.f).nodup_iff.2 h1) (by have:=hR.lt;omega)
    have HSO:=hid hsort;have HFIN:=hid (And.intro (hperm.map ZT) (And.intro hbel hR.lt));clear hR hrow hC hbel hl0 hsort hperm HRW;go_wp2_with fail;refine HSO.out.mono ?_;rintro e w4⟨rfl,l',hp,hrise,hown,hb4⟩;obtain⟨g1,g2,g3⟩:=HFIN.out;have he:l'=L.map ZT:=(hp.trans g1).eq_of_pairwise (fun a b _ _ h h'=>by omega) hrise (Zfn HR.out.1);subst he;have HE:=hid (And.intro (hown.base_le (b:=w.heap.size) (by have:=HB1.out.1.size;have:=HRR.out;omega)) (HB1.out.1.trans ((g2.trans (hb4.mono (by omega))).mono (by have:=HB1.out.1.size;have:=HRR.out;omega))));clear hp hrise hown hb4 g1 g2 g3;go_wp2;go_ret;exact⟨_,rfl,HE.out⟩
  · have hrs:r<wr.heap.size:=hR.lt;have hbel1:Below r w1 w3:=hbel.grown hg1 (by have:=hbel.size;rw[HRR.out];exact this) (fun k e=>by injection e with e;omega);obtain⟨s,rfl,hls⟩:=ZnI hfx;have hin:=HR.out.2.1 _ (ZeO hls);have hno:∀g,(Value.slice PA ps.length PK).ownBlock=some g->w3.heap[g]?=wr.heap[g]?:=fun g hg=>hg1.block g (hrow.at_ g hg).2 (fun e=>by injection e with e;have:=(hrow.at_ g hg).1;omega)
    have hrow1:=hrow.stays hno;have hC1:=hC.step HR.out.1 hls hlx;have hb4:Below w3.heap.size w3 (w3.alloc (.cells #[.int .i64 x,.int .i64 0,.int .i64 0,.int .i64 s] 34 (0,0))):=(Below.refl _ _).alloc (Nat.le_refl _) _;obtain⟨v',w6,hrun,hown6,hb6,_⟩:=(hrow1.below hb4).append1 (x:=ZT (x,s)) (heap_alloc_new _ _) ⟨hin.1,by show B64 0;unfold B64;omega,by show B64 0;unfold B64;omega,hin.2⟩ (by rw[List.length_map];omega) (by have:=hb4.size;omega) 35;have hb36:Below (r+1) w3 w6:=(hb4.mono (by omega)).trans hb6;have hR6:=hR1.keep (hb36.block m (by have:=HB1.out.2.2;have:=HRR.out;omega)) (hb36.block r (by omega))
    have HN:=hid (show Zbv w6 m r n (Zhm L) (fun z=>left z && !decide (z=x)) cnt1/\Z8 w6 (r+1) v' ((ps++[(x,s)]).map ZT)/\Zfm L (fun z=>left z && !decide (z=x)) (ps++[(x,s)])/\Below r w1 w6/\(ps++[(x,s)]).length+cnt1<=n from
     ⟨hR6,by rw[List.map_append];exact hown6,hC1,hbel1.trans (hb36.mono (by omega)),by rw[List.length_append];simp;omega⟩)
    have HLT:=hid (And.intro hlt (And.intro hR.left_eq hR6.left_eq));have HRUN:=hid hrun;clear hR hrow hC hbel hcnt hR1 hrow1 hg1 hs1 hlt hC1 hb4 hrun hown6 hb6 hb36 hR6 hfx hls hno hbel1 HRW
    go_wp2_with (at_builtin;refine Lib.wpList_append_run _ rfl _ _ _ _ rfl _ _ rfl rfl _ _ HRUN.out ?_)
    go_roundw
    case rel=>exact⟨_,_,_,HN⟩
    case measure=>obtain⟨q1,q2,q3⟩:=HLT.out;rw[q2,q3];exact q1
end
theorem Zfo{B:Nat}{w w':World}(h:Below B w w'):∀n,Below B w (w'.drewN n):=fun n=>⟨h.os,h.tape,h.output,h.size,h.block⟩
theorem ZpU{x y:Ln}(h1:x.f=y.f)(h2:x.o=y.o)(h3:x.n=y.n)(h4:x.a=y.a):x=y:=by
 cases x;cases y;simp_all
instance lnDec:DecidableEq Ln:=fun x y=>
 if h:x.f=y.f/\x.o=y.o/\x.n=y.n/\x.a=y.a then isTrue (ZpU h.1 h.2.1 h.2.2.1 h.2.2.2)else isFalse fun e=>h (by rw[e];exact⟨rfl,rfl,rfl,rfl⟩)
theorem ZnL(x y:Ln)(W:World):(Op.equalIn 10000 34 (.agg #[.int .i64 x.f,.int .i64 x.o,.int .i64 x.n,.int .i64 x.a]) (.agg #[.int .i64 y.f,.int .i64 y.o,.int .i64 y.n,.int .i64 y.a])).run prog W=.ok (decide (x=y)) W:=by
 have u3:=underlying3;have a3:=Tryz.isAgg3;have z3:=Tryz.sizeOf3;have hS:prog.underlying 34=some (.struct (prog.fieldsOf 34)):=by kernel_rfl
 have hp:prog.stoodInHeld 34=false:=by kernel_rfl
 have hd:decide (x=y)=(x.f == y.f&&x.o == y.o&&x.n == y.n&&x.a == y.a):=by
  by_cases e:x=y
  · subst e;simp
  · have:¬(x.f=y.f/\x.o=y.o/\x.n=y.n/\x.a=y.a):=fun h=>e (ZpU h.1 h.2.1 h.2.2.1 h.2.2.2)
    rw[decide_eq_false e,Eq.comm,Bool.eq_false_iff];intro h;simp only[Bool.and_eq_true,beq_iff_eq]at h;exact this ⟨h.1.1.1,h.1.1.2,h.1.2,h.2⟩
 rw[hd,show(10000:Nat)=9999+1 from rfl,run_equalIn_agg W 9999 34 _ _ hS hp];simp only[Program.fieldsOf,underlying34]
 go_simp
 by_cases h1:x.f=y.f <;> by_cases h2:x.o=y.o <;> by_cases h3:x.n=y.n <;> by_cases h4:x.a=y.a <;> simp[h1,h2,h3,h4]
section
variable{w w':World}{A A':Option Addr}{n m k B B':Nat}{l l':List Ln}
theorem Zj9(c d:Nat)(hr:RL w B A n l)(hr':RL w B' A' m l')(hm:n<=maxLen)(hm':m<=maxLen)(hB:B<=w.heap.size)(hB':B'<=w.heap.size) :
 Calls prog 25 #[.slice A n c,.slice A' m d] w fun e w'=>e=.returned (.bool (decide (l=l')))/\Below w.heap.size w w':=by
 unfold maxLen at hm hm';have hlen:=hr.len;have hlen':=hr'.len;have HR:=hid (And.intro hr hr');clear hr hr';by_cases hnm:n=m
 · subst hnm;have hne:((n:Int) != (n:Int))=false:=by simp
   go_enter func25,ntmps25;go_wp2
   go_loopw[13] (fun i wr=>∃k:Nat,k<=n/\i=.int .i64 k/\Hid (∀j,j<k->l[j]?=l'[j]?)/\Below w.heap.size w wr) (fun i _=>n-(intOf i).toNat)
   case atStart=>exact⟨0,Nat.zero_le _,rfl,hid (fun j hj=>absurd hj (by omega)),Below.refl _ _⟩
   case round=>
    obtain⟨k,hk,rfl,hbef,hbw⟩:=hrel;by_cases hlt:k<n
    · obtain⟨x,hx⟩:∃x,l[k]?=some x:=⟨_,List.getElem?_eq_getElem (by omega)⟩
      obtain⟨y,hy⟩:∃y,l'[k]?=some y:=⟨_,List.getElem?_eq_getElem (by omega)⟩
      obtain⟨b,off,rfl,hb,hcell⟩:=HR.out.1.2.2 (by omega);obtain⟨b',off',rfl,hb',hcell'⟩:=HR.out.2.2.2 (by omega);obtain⟨c0,c1,c2,c3⟩:=(hcell k x hx).keep hb (fun b o hbb=>hbw.cell (p:=⟨b,o,none⟩) (Nat.lt_of_lt_of_le hbb hB));obtain⟨d0,d1,d2,d3⟩:=(hcell' k y hy).keep hb' (fun b o hbb=>hbw.cell (p:=⟨b,o,none⟩) (Nat.lt_of_lt_of_le hbb hB'));have HXY:=hid (And.intro hx hy);have HBW:=hid hbw;clear hcell hcell' hx hy hbw;have hlt':(k:Int)<(n:Int):=by omega
      have hcmp:=ZnL x y;by_cases hv:x=y
      · have hn:=hid (fun j (hj:j<k+1)=>show l[j]?=l'[j]? by
         rcases Nat.lt_or_ge j k with h|h
         · exact hbef.out j h
         · obtain rfl:j=k:=by omega
           rw[HXY.out.1,HXY.out.2,hv])
        rw[decide_eq_true hv]at hcmp;obtain⟨xf,xo,xn,xa⟩:=x;obtain⟨yf,yo,yn,ya⟩:=y;simp only at c0 c1 c2 c3 d0 d1 d2 d3 hcmp;clear hv;go_wp2_with fail
        go_quiet (fail)
        go_wp2;go_roundw
        case rel=>exact⟨k+1,by omega,by go_num,hn,Zfo HBW.out _⟩
        case measure=>simp[intOf];omega
      · have hd:=hid (show decide (l=l')=false by
         have:¬l=l':=fun e=>hv (by
          have h1:=HXY.out.1;rw[e,HXY.out.2]at h1
          exact(Option.some.inj h1).symm)
         simpa using this)
        rw[decide_eq_false hv]at hcmp;obtain⟨xf,xo,xn,xa⟩:=x;obtain⟨yf,yo,yn,ya⟩:=y;simp only at c0 c1 c2 c3 d0 d1 d2 d3 hcmp;clear hv;go_wp2_with fail
        go_quiet (fail)
        go_wp2;go_ret;rw[hd.out];exact⟨rfl,Zfo HBW.out _⟩
    · obtain rfl:k=n:=by omega
      have hd:=hid (show decide (l=l')=true by
       have:l=l':=List.ext_getElem? fun j=>by
        rcases Nat.lt_or_ge j k with h|h
        · exact hbef.out j h
        · rw[List.getElem?_eq_none (by omega),List.getElem?_eq_none (by omega)]
       simpa using this)
      go_wp2;go_ret;rw[hd.out];exact⟨rfl,hbw⟩
 · have hne:((n:Int) != (m:Int))=true:=by simp;omega
   have hd:decide (l=l')=false:=by
    have:¬l=l':=fun e=>hnm (by rw[<-hlen,<-hlen',e])
    simpa using this
   rw[hd];clear hd hnm;go_enter func25,ntmps25;go_wp2;go_ret;exact⟨rfl,Below.refl _ _⟩
end
theorem Zex{P:Program}{ops:Array Oper}{o:Oper}{a:Act}{w:World}{K:Act->World->Prop}{Q:Exit->Act->World->Prop}{E:Prop}(hgd:o.guard=none)(s x:Operand)(t tn:TypeId)
 (ho:o.op=.call {callee:=.builtin .append,args:=#[s,x],argTypes:=#[t,tn]}) (v u:Value) (hs:a.eval s=v) (hx:a.eval x=u) {v':Value} {w':World}
 (hrun:(Builtin.append_ #[t,tn] o.type #[v,u]).run P w=.ok v' w') (h:K (a.put o.dst v') w') :
 if Region.wanted o (yielded ops a.tmps)=true then Oper.wp P o a w K Q else E:=by
 have hw:Region.wanted o (yielded ops a.tmps)=true:=by simp[Region.wanted,hgd]
 rw[if_pos hw];exact Lib.wp_append_run w s x t tn ho v u hs hx _ _ hrun h
theorem ZnM{L:FL}{j:Nat}{p:Int×Int}(h:L[j]?=some p):balL (L.take (j+1))=balL (L.take j)++(Zlx p).toList:=by
 obtain⟨hj,rfl⟩:=List.getElem?_eq_some_iff.1 h;unfold balL;rw[List.take_succ_eq_append_getElem hj,List.filterMap_append]
 congr 1
theorem ZnN{L:FL}{j:Nat}{x:Ln}(h:(L.map ZT)[j]?=some x):∃p,L[j]?=some p/\x=ZT p:=by
 rw[List.getElem?_map]at h;obtain⟨p,h1,h2⟩:=Option.map_eq_some_iff.1 h;exact⟨p,h1,h2.symm⟩
section
variable{w w':World}{A A':Option Addr}{n m k B B':Nat}{l l':List Ln}
theorem Zqe(s:Int)(w:World):Calls prog 304 #[.int .i64 s] w fun e w'=>e=.returned (.int .i64 (ZeP s))/\w=w':=by
 unfold ZeP;by_cases h:0<s
 · rw[if_pos h];go_enter func304,ntmps304;go_wp2;go_ret;exact⟨rfl,rfl⟩
 · rw[if_neg h];go_enter func304,ntmps304;go_wp2;go_ret;exact⟨rfl,rfl⟩
theorem Zka(hr:RL w B A n l)(hB:B<=w.heap.size)(hn:n<=1073741823) :
 Calls prog 281 #[.slice A n k] w fun e w'=>∃u,e=.returned u/\Z8 w' w.heap.size u (balL (fundsOf l))/\Below w.heap.size w w':=by
 have HF:=hid (ZnK (k:=k) hr hB (by omega));have HL:=hid (And.intro (ZaO l hr.ok) (show(fundsOf l).length<=n by rw[<-hr.len];exact Zah l));generalize fundsOf l=L at HF HL ⊢;clear hr hB;go_enter func281,ntmps281;go_wp2_with fail;refine HF.out.mono ?_;rintro e w1⟨u1,rfl,ho1,hb1⟩;obtain⟨A1,c1,rfl,hc1⟩:=ho1.shape;rw[List.length_map]at ho1 hc1 ⊢;obtain⟨_,_,hr1⟩:=ho1.read (ZnJ HL.out.1);obtain⟨N,hN⟩:∃N,N=L.length:=⟨_,rfl⟩
 have HNN:=hid hN;rw[<-hN]at hr1 hc1 ⊢;have HR1:=hid hr1;have HB1:=hid hb1;have hNn:N<=n:=by rw[hN];exact HL.out.2
 clear ho1 hr1 hb1 hN HF;go_wp2_with fail
 go_loopw[3,9] (fun u i wr=>∃j:Nat,j<=N/\i=.int .i64 j/\Hid (Z8 wr w1.heap.size u (balL (L.take j))/\Below w1.heap.size w1 wr)) (fun _ i _=>N-(intOf i).toNat)
 case atStart=>exact⟨0,Nat.zero_le _,rfl,hid ⟨by rw[List.take_zero];exact Z8.start _ _,Below.refl _ _⟩⟩
 case round=>
  obtain⟨j,hj,rfl,HI⟩:=hrel;by_cases hlt:j<N
  · have hlt':(j:Int)<(N:Int):=by omega
    obtain⟨hown,hb⟩:=HI.out;obtain⟨x,hx⟩:∃x,(L.map ZT)[j]?=some x:=⟨_,List.getElem?_eq_getElem (by rw[List.length_map,<-HNN.out];exact hlt)⟩
    obtain⟨b,off,rfl,hbB,hat⟩:=HR1.out.2.2 (by omega);obtain⟨c0,c1',c2,c3⟩:=(hat j x hx).keep hbB (fun b o hbb=>hb.cell (p:=⟨b,o,none⟩) hbb);obtain⟨⟨f,s⟩,hp,rfl⟩:=ZnN hx;simp only[ZT]at c0 c1' c2 c3;have hin:=HL.out.1 _ (List.mem_of_getElem? hp);have hstep:=ZnM hp;have hll:(balL (L.take j)).length<=j:=Nat.le_trans (Zb5 _) (by rw[List.length_take];exact Nat.min_le_left _ _);by_cases hz:s=0
    · subst hz;have HE:=hid (show ∀W,Below wr.heap.size wr W->Z8 W w1.heap.size _ (balL (L.take (j+1)))/\Below w1.heap.size w1 W from fun W hW=>⟨by rw[hstep];unfold Zlx;rw[if_pos rfl];show Z8 W _ _ (_++[]);rw[List.append_nil];exact hown.below hW,hb.trans (hW.mono hb.size)⟩);have hX:Below wr.heap.size wr (wr.alloc (.cells #[.int .i64 f,.int .i64 0,.int .i64 0,.int .i64 0] 34 (0,0))):=(Below.refl _ _).alloc (Nat.le_refl _) _;have HX:=hid hX;clear hown hb hx hat hp hin hstep hll hX HI;go_wp2_with fail;go_roundw
      case rel=>exact⟨j+1,by omega,by go_num,hid (HE.out _ HX.out)⟩
      case measure=>simp[intOf];omega
    · have hne:(s != 0)=true:=by simpa using hz
      have hX:Below wr.heap.size wr (wr.alloc (.cells #[.int .i64 f,.int .i64 0,.int .i64 0,.int .i64 s] 34 (0,0))):=(Below.refl _ _).alloc (Nat.le_refl _) _;have hXd:=hX.drew;obtain⟨z,hz'⟩:∃z,IntKind.i64.wrap (-s)=z:=⟨_,rfl⟩
      obtain⟨d,hd⟩:∃d,ZeP s=d:=⟨_,rfl⟩
      have hblk:=heap_alloc_new wr (.cells #[.int .i64 f,.int .i64 0,.int .i64 0,.int .i64 s] 34 (0,0));obtain⟨wx,hwx⟩:∃wx,wx=wr.alloc (.cells #[.int .i64 f,.int .i64 0,.int .i64 0,.int .i64 s] 34 (0,0)):=⟨_,rfl⟩
      have hsz:wx.heap.size=wr.heap.size+1:=by rw[hwx];simp
      rw[<-hwx]at hblk hX hXd;have q0:wx.drew.cell? ⟨wr.heap.size,0,none⟩=some (.int .i64 f):=cell_of_row wx.drew _ 0 _ _ (0,0) hblk;have q3:wx.drew.cell? ⟨wr.heap.size,3,none⟩=some (.int .i64 s):=cell_of_row wx.drew _ 3 _ _ (0,0) hblk;have hblk2:(wx.alloc (.cells #[.int .i64 f,.int .i64 d,.int .i64 0,.int .i64 z] 34 (0,0))).drew.heap[wr.heap.size]?=_:=(heap_alloc_old wx _ (Array.getElem?_eq_some_iff.1 hblk).1).trans hblk;have p0:(wx.alloc (.cells #[.int .i64 f,.int .i64 d,.int .i64 0,.int .i64 z] 34 (0,0))).drew.cell? ⟨wr.heap.size,0,none⟩=some (.int .i64 f):=cell_of_row _ _ 0 _ _ (0,0) hblk2;have p3:(wx.alloc (.cells #[.int .i64 f,.int .i64 d,.int .i64 0,.int .i64 z] 34 (0,0))).drew.cell? ⟨wr.heap.size,3,none⟩=some (.int .i64 s):=cell_of_row _ _ 3 _ _ (0,0) hblk2;have hXe:Below wr.heap.size wr (wx.alloc (.cells #[.int .i64 f,.int .i64 d,.int .i64 0,.int .i64 z] 34 (0,0))).drew:=(hX.alloc hX.size _).drew;have hok:Za7 ⟨f,d,0,z⟩:=ZdK (L:=[(f,s)]) (fun p hp=>by obtain rfl:=List.mem_singleton.1 hp;exact hin) _ (by unfold balL Zlx;simp only[List.filterMap_cons,if_neg hz,hd,hz'];exact List.mem_singleton.2 rfl);obtain⟨v',w6,hrun,hown6,hb6,hg6,_⟩:=(hown.below hXe).append1 (x:=⟨f,d,0,z⟩) (heap_alloc_new wx _) hok (by omega) (Nat.le_trans hb.size hXe.size) 35;have HE:=hid (show Z8 w6 w1.heap.size v' (balL (L.take (j+1)))/\Below w1.heap.size w1 w6 from⟨by rw[hstep];unfold Zlx;rw[if_neg hz];simp only[hd,hz'];exact hown6,(hb.trans (hXe.mono hb.size)).trans hb6⟩);have hblk6:w6.heap[wr.heap.size]?=_:=(hg6.block _ (Array.getElem?_eq_some_iff.1 hblk2).1 (fun e=>by have:=(hown.at_ _ e.symm).2;omega)).trans hblk2;have r0:w6.cell? ⟨wr.heap.size,0,none⟩=some (.int .i64 f):=cell_of_row _ _ 0 _ _ (0,0) hblk6;have r3:w6.cell? ⟨wr.heap.size,3,none⟩=some (.int .i64 s):=cell_of_row _ _ 3 _ _ (0,0) hblk6;have HD:=hid (Zqe s);rw[hd]at HD;rw[hsz]at hrun;have HRUN:=hid hrun;obtain⟨PA,PK,rfl,_⟩:=hown.shape;clear hown hb hx hat hp hin hstep hX HI hd hXd hXe hok hown6 hb6 hrun hblk hblk2 hblk6 hg6 hsz;go_wp2_with fail;subst hwx
      go_region_held3 (fun W=>W.cell? ⟨wr.heap.size,0,none⟩=some (.int .i64 f)/\W.cell? ⟨wr.heap.size,3,none⟩=some (.int .i64 s))
       (first|with_reducible exact⟨r0,r3⟩|with_reducible exact⟨q0,q3⟩|with_reducible exact⟨p0,p3⟩|exact⟨q0,q3⟩|exact⟨p0,p3⟩)
       (first
        | (go_at_call 304;refine(HD.out _).mono ?_;rintro e w4 ⟨rfl,rfl⟩)
        | (refine Zex rfl (.tmp 16) (.tmp 26) _ _ rfl _ _ (by rfl) (by rfl) HRUN.out ?_))
      go_wp2;go_roundw
      case rel=>exact⟨j+1,by omega,by go_num,HE⟩
      case measure=>simp[intOf];omega
  · obtain rfl:j=N:=by omega
    have HE:=hid (show Z8 wr w.heap.size _ (balL L)/\Below w.heap.size w wr from⟨by have h1:=HI.out.1;rw[List.take_of_length_le (by rw[<-HNN.out];exact Nat.le_refl _)]at h1;exact h1.base_le HB1.out.size,HB1.out.trans (HI.out.2.mono HB1.out.size)⟩);clear HI;go_wp2;go_ret;exact⟨_,rfl,HE.out⟩
end
end Go.Proofs.YtiknkbpojmgbhaaGreat
namespace Go.Proofs.YtiknkbpojmgbhaaGreat
open Go.RowKit
theorem ZnO(n:Nat)(w:World)(hn:n<=2147483647):Calls prog 302 #[.slice none 0 0,.int .i64 n] w fun e w'=>∃v,e=.returned v/\Z8 w' w.heap.size v []/\Below w.heap.size w w':=by
 rcases Nat.eq_zero_or_pos n with h0|h0
 · subst h0;go_enter func302,ntmps302;go_wp2;go_ret;exact⟨_,rfl,Z8.start _ _,Below.refl _ _⟩
 obtain⟨i0,hi,hz0,hz1,hz2⟩:=info_parts ZiU
 have hrz:∀ty,(Builtin.append_ #[35,3] ty #[.slice none 0 0,.int .i64 (n:Int)]).run prog w =
  .ok (.slice (some ⟨w.heap.size,0,none⟩) n (grownCap w n 0 34)) (w.drew.alloc (.cells (#[]++Builtin.zeroCells (Value.agg #[.int .i64 0,.int .i64 0,.int .i64 0,.int .i64 0]).cells n++Builtin.zeroCells (Value.agg #[.int .i64 0,.int .i64 0,.int .i64 0,.int .i64 0]).cells (grownCap w n 0 34-n)) 34)):=fun ty=>by
  have h:=Lib.run_append_grow_zeros w 35 3 ty 34 i0 (.agg #[.int .i64 0,.int .i64 0,.int .i64 0,.int .i64 0]) .i64 .i64 underlying35 underlying3 hi hz0 none 0 0 [] (run_firstCells_none w.drew i0.size 0 0 0) n h0 (by rw[hz1];decide) (by omega) (by omega) (by rw[hz2];omega) (by rw[hz2];exact growslice_fits (by omega) (by omega));simp only[Nat.zero_add]at h;exact h
 have hGn:n<=grownCap w n 0 34:=grownCap_ge w _ _ _;have hGm:=grownCap_le_maxLen w n 0 34 (by unfold maxLen;omega);obtain⟨G,hG⟩:∃G,G=grownCap w n 0 34:=⟨_,rfl⟩
 rw[<-hG]at hrz hGn hGm;have hG63:G<=9223372036854775807:=by unfold maxLen at hGm;omega
 clear hG hi hz0 hz1 hz2;have hn0:(0:Int)<(n:Int):=by omega
 go_enter func302,ntmps302
 go_wp2_with (at_builtin;refine Lib.wpList_append_run _ rfl _ _ _ _ rfl _ _ rfl rfl _ _ (hrz _) ?_)
 all_goals go_ret
 all_goals refine⟨_,rfl,⟨rfl,.inr ⟨w.heap.size,G,_,rfl,Nat.le_refl _,heap_alloc_new _ _,Nat.zero_le _,hGm,?_,rfl⟩⟩,(Below.refl w.heap.size w).drew.alloc (Nat.le_refl _) _⟩
 all_goals simp[size_zeroCells]
 all_goals first|omega|(show _=G*4;rw[show(Value.agg #[.int .i64 0,.int .i64 0,.int .i64 0,.int .i64 0]).cells.size=4 from rfl];omega)
def Zfp(ns:Nat->Nat):Nat->Nat|0=>0|k+1=>Zfp ns k+ns k
def Zl3(ls:Nat->List Ln):Nat->List Ln|0=>[]|k+1=>Zl3 ls k++ls k
theorem Zpb(ns:Nat->Nat){j k:Nat}(h:j<=k):Zfp ns j<=Zfp ns k:=by
 induction h with
 | refl=>exact Nat.le_refl _
 | step _ ih=>exact Nat.le_trans ih (Nat.le_add_right _ _)
theorem ZiK{ns:Nat->Nat}{ls:Nat->List Ln}{K:Nat}(h:∀j,j<K->(ls j).length=ns j):∀k,k<=K->(Zl3 ls k).length=Zfp ns k
 | 0,_=>rfl
 | k+1,hk=>by
  show(Zl3 ls k++ls k).length=Zfp ns k+ns k
  rw[List.length_append,ZiK h k (by omega),h k (by omega)]
theorem Zkb(g k B:Nat)(As:Nat->Option Addr)(ns cs:Nat->Nat)(ls:Nat->List Ln)(w:World)(hg:g<w.heap.size)(hB:B<=w.heap.size)(hk:k<=1000)
 (hcell:∀j,j<k->w.cell? ⟨g,j,none⟩=some (.slice (As j) (ns j) (cs j))) (hr:∀j,j<k->RL w B (As j) (ns j) (ls j)) (hn:Zfp ns k<=2147483647) :
 Calls prog 280 #[.slice (some ⟨g,0,none⟩) k k] w fun e w'=>∃v,e=.returned v/\Z8 w' w.heap.size v (Zl3 ls k)/\Below w.heap.size w w':=by
 have HC:=hid hcell;have HR:=hid hr;have HT:=hid (fun j (hj:j<k)=>show Zfp ns j+ns j<=Zfp ns k from Zpb ns (Nat.succ_le_of_lt hj));have HL:=hid (ZiK (K:=k) (ls:=ls) (fun j hj=>(hr j hj).len));clear hcell hr;go_enter func280,ntmps280;go_wp2
 go_loop[3,11] (fun s i=>∃j:Nat,j<=k/\i=.int .i64 j/\s=.int .i64 (Zfp ns j:Int)) (fun _ i=>k-(intOf i).toNat)
 case atStart=>exact⟨0,Nat.zero_le _,rfl,rfl⟩
 case round=>
  obtain⟨j,hj,rfl,rfl⟩:=hrel;by_cases hlt:j<k
  · have hc:=HC.out j hlt;have ht:=HT.out j hlt;have hlt':(j:Int)<(k:Int):=by omega
    obtain⟨x,hx⟩:∃x,x=Zfp ns j:=⟨_,rfl⟩
    obtain⟨y,hy⟩:∃y,y=ns j:=⟨_,rfl⟩
    have hxy:=hid (show Zfp ns (j+1)=x+y by rw[hx,hy];rfl);rw[<-hy]at hc;rw[<-hx,<-hy]at ht;rw[<-hx];clear hx hy;have hns:¬((x:Int)+(y:Int)<0):=by omega
    go_wp2;go_roundw
    case rel=>exact⟨j+1,by omega,by go_num,by rw[hxy.out];go_num⟩
    case measure=>simp[intOf];omega
  · obtain rfl:j=k:=by omega
    go_wp2_with fail;refine(ZnO _ _ hn).mono ?_;rintro e w1⟨v1,rfl,hown1,hb1⟩;have HO1:=hid (And.intro hown1 hb1);clear hown1 hb1;go_wp2
    go_loopw[6,27] (fun v i wr=>∃m:Nat,m<=j/\i=.int .i64 m/\Hid (Z8 wr w.heap.size v (Zl3 ls m)/\Below w.heap.size w wr)) (fun _ i _=>j-(intOf i).toNat)
    case atStart=>exact⟨0,Nat.zero_le _,rfl,HO1⟩
    case round=>
     obtain⟨m,hm,rfl,HI⟩:=hrel;by_cases hlt2:m<j
     · obtain⟨hown,hbw⟩:=HI.out;have hc:=(hbw.cell (p:=⟨g,m,none⟩) hg).trans (HC.out m hlt2);have ht:=HT.out m hlt2;have hrm:=(HR.out m hlt2).below (hbw.mono hB);have hlt':(m:Int)<(j:Int):=by omega
       have hln:=HL.out m (by omega);obtain⟨v2,w2,hrun,hown2,hb2,_⟩:=hown.appendL (c:=cs m) hrm (by omega) (by omega) hbw.size 35;have HE:=hid (show Z8 w2 w.heap.size v2 (Zl3 ls (m+1))/\Below w.heap.size w w2 from⟨hown2,hbw.trans hb2⟩);have HRUN:=hid hrun;clear hown hbw hrm hown2 hb2 hrun HI hln
       go_wp2_with (at_builtin;refine Lib.wpList_append_run _ rfl _ _ _ _ rfl _ _ rfl rfl _ _ HRUN.out ?_)
       go_roundw
       case rel=>exact⟨m+1,by omega,by go_num,HE⟩
       case measure=>simp[intOf];omega
     · obtain rfl:m=j:=by omega
       go_wp2;go_ret;exact⟨_,rfl,HI.out⟩
section
variable{w w':World}{A A':Option Addr}{n m k B B':Nat}{l l':List Ln}
theorem Zl4(hr:RL w B A n l)(hB:B<=w.heap.size)(hn:n<=1073741823) :
 Calls prog 248 #[.slice A n k] w fun e w'=>∃u,e=.returned u/\Z8 w' w.heap.size u (l++balL (fundsOf l))/\Below w.heap.size w w':=by
 have HBAL:=hid (Zka (k:=k) hr hB hn);have HL:=hid (And.intro hr.len (And.intro (ZdK (ZaO l hr.ok)) (show(balL (fundsOf l)).length<=n from Nat.le_trans (Zb5 _) (by rw[<-hr.len];exact Zah l))));have HR:=hid (And.intro hr hB);generalize balL (fundsOf l)=M at HBAL HL ⊢;clear hr hB;go_enter func248,ntmps248;go_wp2_with fail;refine HBAL.out.mono ?_;rintro e w2⟨u2,rfl,ho2,hb2⟩;obtain⟨A2,c2,rfl,hc2⟩:=ho2.shape;obtain⟨_,_,hr2⟩:=ho2.read HL.out.2.1;have hNn:M.length<=n:=HL.out.2.2;have hX:Below w2.heap.size w2 (w2.alloc (.cells #[.slice A n k,.slice A2 M.length c2] 35 (0,0))):=(Below.refl _ _).alloc (Nat.le_refl _) _;have hb2':=hb2.trans (hX.mono hb2.size);have hblk:=heap_alloc_new w2 (.cells #[.slice A n k,.slice A2 M.length c2] 35 (0,0))
 have HCO:=hid (Zkb w2.heap.size 2 (w2.alloc (.cells #[.slice A n k,.slice A2 M.length c2] 35 (0,0))).heap.size (fun j=>if j=0 then A else A2) (fun j=>if j=0 then n else M.length) (fun j=>if j=0 then k else c2) (fun j=>if j=0 then l else M) (w2.alloc (.cells #[.slice A n k,.slice A2 M.length c2] 35 (0,0))) (Array.getElem?_eq_some_iff.1 hblk).1 (Nat.le_refl _) (by decide)
  (fun j hj=>by
   have:j=0∨j=1:=by omega
   rcases this with rfl|rfl
   · exact cell_of_row _ _ 0 _ _ (0,0) hblk
   · exact cell_of_row _ _ 1 _ _ (0,0) hblk)
  (fun j hj=>by
   have:j=0∨j=1:=by omega
   rcases this with rfl|rfl
   · exact((HR.out.1.below (hb2'.mono HR.out.2)).more (Nat.le_trans HR.out.2 hb2'.size))
   · exact(hr2.below hX).more hX.size) (by show 0+n+M.length<=_;omega))
 have HE:=hid hb2';clear ho2 hb2 hr2 hX hb2' hblk HBAL;go_wp2_with fail;refine HCO.out.mono ?_;rintro e w3⟨u3,rfl,ho3,hb3⟩;have HF:=hid (show Z8 w3 w.heap.size u3 (l++M)/\Below w.heap.size w w3 from⟨ho3.base_le HE.out.size,HE.out.trans (hb3.mono HE.out.size)⟩);clear ho3 hb3;go_wp2;go_ret;exact⟨_,rfl,HF.out⟩
end
end Go.Proofs.YtiknkbpojmgbhaaGreat
