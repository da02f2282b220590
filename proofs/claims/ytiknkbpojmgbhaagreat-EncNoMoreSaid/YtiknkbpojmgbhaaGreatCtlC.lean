/- CtlP, CtlA, CtlB, CtlC. Conditions: in each theorem. -/
import Derived.Test.YtiknkbpojmgbhaaGreatTreP
import Derived.Test.YtiknkbpojmgbhaaGreatManS
import Derived.Test.YtiknkbpojmgbhaaGreatTreC
import Derived.Test.YtiknkbpojmgbhaaGreatIntApp
import Derived.Laws.ResultCell
set_option maxHeartbeats 3200000
set_option maxRecDepth 100000
set_option linter.unusedVariables false
open Go.Proofs.Tryz
open Go.Lib (hid)
namespace Go.Proofs.YtiknkbpojmgbhaaGreat
open Go.RowKit Go.Maps
def ZmC(lo hi x:Int):Bool:=decide (x<lo)||decide (x>hi)
def inC(lo hi:Int)(l:List Int):Bool:=l.all fun x=>!(ZmC lo hi x)
def allowsN(x:Nd)(more:Int):Bool×Bool:=
 if more>1152921504606846976∨inC (-1152921504606846976) 1152921504606846976 [usedN x,x.li]=false then(false,false)
 else if more<1∨wrap64 (usedN x+more)<=x.li then(true,false)
 else if x.ab=true then(false,false)
 else(true,true)
def rightN(x:Nd):Bool:=inC 0 1152921504606846976 [x.pr,x.en,x.ex]
def growN(x:Nd)(p e q:Int):Nd:=⟨x.y,x.i,x.p,x.f,x.o,x.ab,x.li,wrap64 (x.pr+p),wrap64 (x.en+e),wrap64 (x.ex+q),x.la,x.ca⟩
def chkN(x:Nd)(p e q:Int):Bool×Int:=
 if rightN x=false∨rightN (growN x p e q)=false then(false,9)
 else if(allowsN x (wrap64 (wrap64 (p+e)+q))).1=true then((allowsN x (wrap64 (wrap64 (p+e)+q))).2,0)
 else(false,11)
def Zc3(l:List Nd)(p e q:Int):Bool:=l.any fun x=>(chkN x p e q).1
def ZmP:List Nd->Int->Int->Int->Bool×Int
 | [],_,_,_=>(false,0)
 | x::r,p,e,q=>if(chkN x p e q).2=0 then(if(ZmP r p e q).2=0 then((chkN x p e q).1||(ZmP r p e q).1,0)else(false,(ZmP r p e q).2))else(false,(chkN x p e q).2)
theorem ZmQ{l:List Nd}{p e q:Int}(h:∀x∈l,(chkN x p e q).2=0):ZmP l p e q=(Zc3 l p e q,0):=by
 induction l with
 | nil=>rfl
 | cons x r ih=>
  have ih:=ih fun y hy=>h y (List.mem_cons_of_mem _ hy)
  unfold ZmP;rw[if_pos (h x List.mem_cons_self),ih,if_pos rfl];rfl
theorem ZgX{p e q:Int}:∀{l:List Nd} {j:Nat} {x:Nd},l[j]?=some x->(∀y∈l.take j,(chkN y p e q).2=0)->(chkN x p e q).2≠0->ZmP l p e q=(false,(chkN x p e q).2)
 | [],j,x,h,_,_=>by cases h
 | z::r,0,x,h,_,hx=>by
  obtain rfl:z=x:=by simpa using h
  unfold ZmP;rw[if_neg hx]
 | z::r,j+1,x,h,hb,hx=>by
  have ih:=ZgX (l:=r) (j:=j) (by simpa using h) (fun y hy=>hb y (by rw[List.take_succ_cons];exact List.mem_cons_of_mem _ hy)) hx;unfold ZmP;rw[if_pos (hb z (by rw[List.take_succ_cons];exact List.mem_cons_self)),ih,if_neg hx]
def chargeR(S:VS)(y i p e q:Int):(Bool×Int)×VS:=
 if pathN S y 8 i = []then((false,7),S)
 else if inC (-9007199254740992) 9007199254740992 [p,e,q]=false then((false,9),S)
 else if(ZmP (pathN S y 8 i) p e q).2=0 then(ZmP (pathN S y 8 i) p e q,((pathN S y 8 i).map fun x=>growN x p e q).foldl VS.putN S)
 else(ZmP (pathN S y 8 i) p e q,S)
theorem ZjI{lo hi:Int}{l:List Int}(h:inC lo hi l=true):∀x∈l,lo<=x/\x<=hi:=fun x hx=>by
 have:=List.all_eq_true.1 h x hx
 unfold ZmC at this;simp only[Bool.not_eq_true',Bool.or_eq_false_iff,decide_eq_false_iff_not]at this;omega
theorem ZoC{x:Nd}(h:ZbR x)(hy:Zbn x.y=true)(hi:Zbn x.i=true):ndK (Zms x,ZhO x)=some x:=by
 have a:=(ZaC _).1 hy;have b:=(ZaC _).1 hi;unfold ndK Zms ZhO
 rw[ZgB (i:=2) (j:=10) (by intro v hv;simp only[List.mem_cons,List.not_mem_nil,or_false]at hv;rcases hv with rfl|rfl <;> omega) (by
  intro v hv;simp only[List.mem_cons,List.not_mem_nil,or_false]at hv;rcases hv with rfl|rfl|rfl|rfl|rfl|rfl|rfl|rfl|rfl|rfl
  · exact h _ (by simp)
  · exact h _ (by simp)
  · exact h _ (by simp)
  · unfold Zoy;split <;> omega
  · exact h _ (by simp)
  · exact h _ (by simp)
  · exact h _ (by simp)
  · exact h _ (by simp)
  · exact h _ (by simp)
  · exact h _ (by simp)) rfl (by omega) rfl (by omega)]
 show some (ZqR _)=_
 congr 1
 obtain⟨y,i,p,f,o,ab,li,pr,en,ex,la,ca⟩:=x
 cases ab <;> rfl
theorem ZpX{y i j:Int}(hi:Zbn i=true)(hj:Zbn j=true)(h:nKy y i=nKy y j):i=j:=by
 have a:=(ZaC _).1 hi;have b:=(ZaC _).1 hj;have h1:=ZeL y i;have h2:=ZeL y j;rw[Zlv (Z3 (by omega) _) (Z3 (by omega) _) h,h2]at h1;have h3 : [Zn y,Zn j] = [Zn y,Zn i]:=congrArg Prod.fst h1;injection h3 with _ h4;injection h4 with h5;unfold Zn at h5;omega
theorem ZgY{S:VS}{y:Int}:∀{k:Nat} {i:Int} {x:Nd},x∈pathN S y k i->nodeAt S y x.i=some x
 | 0,i,x,h=>by cases h
 | k+1,i,x,h=>by
  unfold pathN at h
  split at h
  · cases h
  · rename_i n e
    have hn:nodeAt S y n.i=some n:=by rw[(Zjq e).2.1];exact e
    split at h
    · obtain rfl:=List.mem_singleton.1 h;exact hn
    · rcases List.mem_cons.1 h with rfl|h
      · exact hn
      · exact ZgY h
theorem Zh5(n lo hi:Int)(b1 b2:Nat)(W:World)(h1:W.cell? ⟨b1,0,none⟩=some (.int .i64 lo))(h2:W.cell? ⟨b2,0,none⟩=some (.int .i64 hi)) :
 Calls prog 272 #[.int .i64 n,.pointer (some ⟨b1,0,none⟩),.pointer (some ⟨b2,0,none⟩)] W fun e w'=>e=.returned (.bool (ZmC lo hi n))/\W=w':=by
 unfold ZmC;by_cases c1:n<lo
 · have k1:decide (n<lo)=true:=decide_eq_true c1;rw[k1,Bool.true_or];clear c1;go_enter func272,ntmps272;go_wp2_with fail;go_ret;exact⟨rfl,rfl⟩
 · have k1:decide (n<lo)=false:=decide_eq_false c1;rw[k1,Bool.false_or];clear c1;go_enter func272,ntmps272;go_wp2_with fail;go_ret;exact⟨rfl,rfl⟩
theorem ZgZ{w:World}{B n:Nat}{A:Option Addr}{l:List Int}(c:Nat)(hr:RI w B A n l)(hm:n<=maxLen)(lo hi:Int)(b1 b2:Nat)(h1:w.cell? ⟨b1,0,none⟩=some (.int .i64 lo))(h2:w.cell? ⟨b2,0,none⟩=some (.int .i64 hi)) :
 Calls prog 258 #[.slice A n c,.func (.func 272) #[] #[.pointer (some ⟨b1,0,none⟩),.pointer (some ⟨b2,0,none⟩)]] w fun e w'=>∃i:Int,e=.returned (.int .i64 i)/\decide (0<=i) = !(inC lo hi l)/\w=w':=by
 unfold maxLen at hm;have HR:=hid hr;have HF:=hid (fun x=>Zh5 x lo hi b1 b2 w h1 h2);clear hr h1 h2;go_enter func258,ntmps258;go_wp2_with fail
 go_loop[8] (fun i=>∃j:Nat,j<=n/\i=.int .i64 j/\Hid (∀(m:Nat) (y:Int),m<j->l[m]?=some y->ZmC lo hi y=false)) (fun i=>n-(intOf i).toNat)
 case atStart=>exact⟨0,Nat.zero_le _,rfl,hid (fun m y hm=>absurd hm (by omega))⟩
 case round=>
  obtain⟨j,hj,rfl,hbef⟩:=hrel;by_cases hlt:j<n
  · obtain⟨b,off,rfl,hb,hat⟩:=HR.out.2.2 (by omega);have hc:=hat j hlt;obtain⟨y,hy⟩:∃y,l[j]?=some y:=⟨_,List.getElem?_eq_getElem (by rw[HR.out.len];exact hlt)⟩
    rw[hy,Option.getD_some]at hc;have HC:=hid (HF.out y);have HY:=hid hy;clear hat hy;have hlt':(j:Int)<(n:Int):=by omega
    cases hk:ZmC lo hi y
    · rw[hk]at HC
      have hn:=hid (fun(m:Nat) (z:Int) (hm:m<j+1)=>show l[m]?=some z->ZmC lo hi z=false by
       intro hz;rcases Nat.lt_or_ge m j with h|h
       · exact hbef.out m z h hz
       · obtain rfl:m=j:=by omega
         rw[HY.out]at hz;cases hz
         exact hk)
      clear hk;go_wp2_with fail;refine HC.out.mono ?_;rintro e w'⟨rfl,rfl⟩;clear hc;go_wp2
      go_round
      case rel=>exact⟨j+1,by omega,by go_num,hn⟩
      case measure=>simp[intOf];omega
    · rw[hk]at HC
      have HEX:=hid (show inC lo hi l=false from by
       unfold inC;rw[List.all_eq_false]
       exact⟨y,List.mem_of_getElem? HY.out,by rw[hk];decide⟩)
      clear hk;go_wp2_with fail;refine HC.out.mono ?_;rintro e w'⟨rfl,rfl⟩;clear hc;go_wp2;go_ret;exact⟨_,rfl,by rw[HEX.out];exact decide_eq_true (by omega),rfl⟩
  · obtain rfl:j=n:=by omega
    have HEX:=hid (show inC lo hi l=true from by
     unfold inC;rw[List.all_eq_true];intro y hy;obtain⟨k,hk,rfl⟩:=List.getElem_of_mem hy;rw[hbef.out k _ (by rw[HR.out.len]at hk;exact hk) (List.getElem?_eq_getElem hk)]
     rfl)
    go_wp2;go_ret;exact⟨_,rfl,by rw[HEX.out];decide,rfl⟩
theorem ZdN{w:World}{B n:Nat}{A:Option Addr}{l:List Int}(c:Nat)(hr:RI w B A n l)(hB:B<=w.heap.size)(hm:n<=maxLen)(lo hi:Int) :
 Calls prog 237 #[.int .i64 lo,.int .i64 hi,.slice A n c] w fun e w'=>e=.returned (.bool (inC lo hi l))/\Below w.heap.size w w':=by
 obtain⟨w1,hw1⟩:∃w1,w1=(w.alloc (.cells #[.int .i64 lo] 3)).alloc (.cells #[.int .i64 hi] 3):=⟨_,rfl⟩
 have hb1:Below w.heap.size w w1:=by rw[hw1];exact((Below.refl _ _).alloc (Nat.le_refl _) _).alloc (by simp) _
 have c0:w1.cell? ⟨w.heap.size,0,none⟩=some (.int .i64 lo):=by
  rw[hw1];exact cell_of_row _ _ 0 _ _ (0,0) ((((Below.refl (w.alloc _).heap.size _).alloc (Nat.le_refl _) _).block _ (by simp)).trans (heap_alloc_new w _))
 have c1:w1.cell? ⟨w.heap.size+1,0,none⟩=some (.int .i64 hi):=by
  rw[hw1];exact cell_of_row _ _ 0 _ _ (0,0) (heap_alloc2_new _ _ _)
 have HI:=hid (ZgZ c (hr.below (hb1.mono hB)) hm lo hi w.heap.size (w.heap.size+1) c0 c1)
 have HC:Hid (Calls prog 271 #[.slice A n c,.func (.func 272) #[] #[.pointer (some ⟨w.heap.size,0,none⟩),.pointer (some ⟨w.heap.size+1,0,none⟩)]] w1 fun e w'=>e=.returned (.bool (!(inC lo hi l)))/\w1=w'):=hid (by
  generalize inC lo hi l=bb at HI ⊢;clear hr c0 c1 hw1 hb1;go_enter func271,ntmps271;go_wp2_with fail;refine HI.out.mono ?_;rintro e w'⟨i,rfl,hi,rfl⟩;have HI:=hid hi;clear hi;go_wp2;go_ret;rw[<-HI.out]
  exact⟨rfl,rfl⟩)
 have HB:=hid hb1;clear hr c0 c1 hb1 HI;generalize inC lo hi l=bb at HC ⊢;go_enter func237,ntmps237;go_wp2_with fail;rw[<-hw1];clear hw1;refine HC.out.mono ?_;rintro e w'⟨rfl,rfl⟩;go_wp2_with fail;go_ret;exact⟨rfl,HB.out⟩
theorem ZmR(W:World)(T:TypeId)(l:List Int)(cs:Array Value)(hcs:cs=(l.map (Value.int .i64)).toArray)(h:ZbL l):RI (W.alloc (.cells cs T)) (W.heap.size+1) (some ⟨W.heap.size,0,none⟩) l.length l:=by
 subst hcs;refine⟨rfl,h,fun _=>⟨W.heap.size,0,rfl,Nat.lt_succ_self _,fun j hj=>?_⟩⟩;rw[Nat.zero_add,cell_of_row _ _ j _ _ (0,0) (heap_alloc_new W _)];simp[List.getElem?_eq_getElem hj]
theorem ZoD(W:World)(g:Nat)(hg:W.heap.size=g)(T:TypeId)(l:List Int)(cs:Array Value)(hcs:cs=(l.map (Value.int .i64)).toArray)(h:ZbL l):RI (W.alloc (.cells cs T)) (g+1) (some ⟨g,0,none⟩) l.length l:=by
 subst hg;exact ZmR W T l cs hcs h
theorem ZbG(n:Int) : -9223372036854775808<=wrap64 n/\wrap64 n<=9223372036854775807:=by unfold wrap64;omega
theorem Zea(x:Nd)(hx:ZbR x)(w:World):Calls prog 273 #[.agg #[.int .i64 x.y,.int .i64 x.i,.int .i64 x.p,.int .i64 x.f,.int .i64 x.o,.bool x.ab,.int .i64 x.li,.int .i64 x.pr,.int .i64 x.en,.int .i64 x.ex,.int .i64 x.la,.int .i64 x.ca]] w fun e w'=>e=.returned (.bool (rightN x))/\Below w.heap.size w w':=by
 have hb1:Below w.heap.size w ((w.alloc (.cells #[.int .i64 x.y,.int .i64 x.i,.int .i64 x.p,.int .i64 x.f,.int .i64 x.o,.bool x.ab,.int .i64 x.li,.int .i64 x.pr,.int .i64 x.en,.int .i64 x.ex,.int .i64 x.la,.int .i64 x.ca] 40)).alloc (.cells #[.int .i64 x.pr,.int .i64 x.en,.int .i64 x.ex] 3)):=((Below.refl _ _).alloc (Nat.le_refl _) _).alloc (by simp) _
 have HW:=hid (ZdN (n:=3) 3 (ZoD (w.alloc (.cells #[.int .i64 x.y,.int .i64 x.i,.int .i64 x.p,.int .i64 x.f,.int .i64 x.o,.bool x.ab,.int .i64 x.li,.int .i64 x.pr,.int .i64 x.en,.int .i64 x.ex,.int .i64 x.la,.int .i64 x.ca] 40)) (w.heap.size+1) (by simp) 3 [x.pr,x.en,x.ex] _ rfl (by
  intro v hv;simp only[List.mem_cons,List.not_mem_nil,or_false]at hv;rcases hv with rfl|rfl|rfl
  · exact hx _ (by simp)
  · exact hx _ (by simp)
  · exact hx _ (by simp))) (by simp) (by decide) 0 1152921504606846976)
 have HB:=hid hb1;unfold rightN;generalize inC 0 1152921504606846976 [x.pr,x.en,x.ex]=bb at HW ⊢;clear hb1 hx;obtain⟨y,i,p,f,o,ab,li,pr,en,ex,la,ca⟩:=x;simp only at HW HB ⊢;go_enter func273,ntmps273;go_wp2_with fail;refine HW.out.mono ?_;rintro e w'⟨rfl,hb⟩;have HE:=hid (HB.out.trans (hb.mono HB.out.size));clear hb;go_wp2_with fail;go_ret;exact⟨rfl,HE.out⟩
theorem ZmS(a b:Int)(ha:ZS a)(hb:ZS b)(W:World):Calls prog 237 #[.int .i64 (-1152921504606846976),.int .i64 1152921504606846976,.slice (some ⟨W.heap.size,0,none⟩) 2 2] (W.alloc (.cells #[.int .i64 a,.int .i64 b] 3)) fun e w'=>e=.returned (.bool (inC (-1152921504606846976) 1152921504606846976 [a,b]))/\Below (W.alloc (.cells #[.int .i64 a,.int .i64 b] 3)).heap.size (W.alloc (.cells #[.int .i64 a,.int .i64 b] 3)) w':=by
 have hr:=ZmR W 3 [a,b] #[.int .i64 a,.int .i64 b] rfl (by
  intro v hv;simp only[List.mem_cons,List.not_mem_nil,or_false]at hv;rcases hv with rfl|rfl
  · exact ha
  · exact hb)
 have hs:W.heap.size+1<=(W.alloc (.cells #[.int .i64 a,.int .i64 b] 3)).heap.size:=by simp
 exact ZdN (n:=2) 2 hr hs (by decide) _ _
theorem ZoE(x:Nd):ZS (usedN x):=ZbG _
theorem ZlC(x:Nd)(hx:ZbR x)(more:Int)(hm:ZS more)(w:World):Calls prog 274 #[.agg #[.int .i64 x.y,.int .i64 x.i,.int .i64 x.p,.int .i64 x.f,.int .i64 x.o,.bool x.ab,.int .i64 x.li,.int .i64 x.pr,.int .i64 x.en,.int .i64 x.ex,.int .i64 x.la,.int .i64 x.ca],.int .i64 more] w fun e w'=>e=.returned (.tuple #[.bool (allowsN x more).1,.bool (allowsN x more).2])/\Below w.heap.size w w':=by
 obtain⟨w1,hw1⟩:∃w1,w1=w.alloc (.cells #[.int .i64 x.y,.int .i64 x.i,.int .i64 x.p,.int .i64 x.f,.int .i64 x.o,.bool x.ab,.int .i64 x.li,.int .i64 x.pr,.int .i64 x.en,.int .i64 x.ex,.int .i64 x.la,.int .i64 x.ca] 40):=⟨_,rfl⟩
 have hb1:Below w.heap.size w w1:=by rw[hw1];exact(Below.refl _ _).alloc (Nat.le_refl _) _
 have hblk:w1.heap[w.heap.size]?=some (.cells #[.int .i64 x.y,.int .i64 x.i,.int .i64 x.p,.int .i64 x.f,.int .i64 x.o,.bool x.ab,.int .i64 x.li,.int .i64 x.pr,.int .i64 x.en,.int .i64 x.ex,.int .i64 x.la,.int .i64 x.ca] 40 (0,0)):=by rw[hw1];exact heap_alloc_new w _
 have hs1:w1.heap.size=w.heap.size+1:=by rw[hw1];simp
 have HU:=hid (Zpz x w1)
 have HC:=hid (show ∀W,Below w1.heap.size w1 W->W.cell? ⟨w.heap.size,5,none⟩=some (.bool x.ab)/\W.cell? ⟨w.heap.size,6,none⟩=some (.int .i64 x.li)from fun W hW=>by
  have hb:=(hW.block w.heap.size (by omega)).trans hblk
  exact⟨cell_of_row _ _ 5 _ _ (0,0) hb,cell_of_row _ _ 6 _ _ (0,0) hb⟩)
 have HB:=hid hb1;have hu:=ZoE x;have hli:ZS x.li:=hx _ (by simp);have HIN:=hid (fun W=>ZmS (usedN x) x.li hu hli W);have e1:more>1152921504606846976->allowsN x more=(false,false):=fun h=>by unfold allowsN;rw[if_pos (.inl h)]
 have e2:inC (-1152921504606846976) 1152921504606846976 [usedN x,x.li]=false->allowsN x more=(false,false):=fun h=>by unfold allowsN;rw[if_pos (.inr h)]
 have e3:¬more>1152921504606846976->inC (-1152921504606846976) 1152921504606846976 [usedN x,x.li]=true->(more<1∨wrap64 (usedN x+more)<=x.li)->allowsN x more=(true,false):=fun h g k=>by unfold allowsN;rw[if_neg (by rw[g];simp;omega),if_pos k]
 have e4:¬more>1152921504606846976->inC (-1152921504606846976) 1152921504606846976 [usedN x,x.li]=true->¬(more<1∨wrap64 (usedN x+more)<=x.li)->allowsN x more=(if x.ab=true then(false,false)else(true,true)):=fun h g k=>by unfold allowsN;rw[if_neg (by rw[g];simp;omega),if_neg k]
 have E:=hid (And.intro e1 (And.intro e2 (And.intro e3 e4)));clear e1 e2 e3 e4;generalize inC (-1152921504606846976) 1152921504606846976 [usedN x,x.li]=bb at HIN E;generalize usedN x=us at HU HIN E hu;generalize allowsN x more=res at E ⊢;obtain⟨y,i,p,f,o,ab,li,pr,en,ex,la,ca⟩:=x;simp only at HU HC HIN E hw1 hli ⊢;clear hblk hs1 hx hb1;by_cases c1:more>1152921504606846976
 · have k1:decide (more>1152921504606846976)=true:=decide_eq_true c1;obtain rfl:=E.out.1 c1;clear c1 E HIN;go_enter func274,ntmps274;go_wp2_with fail;rw[<-hw1];clear hw1;refine HU.out.mono ?_;rintro e w2⟨rfl,hb2⟩;have HE:=hid (HB.out.trans (hb2.mono HB.out.size));clear hb2 HU HC HB;go_wp2_with fail;go_ret2;exact⟨rfl,HE.out⟩
 have k1:decide (more>1152921504606846976)=false:=decide_eq_false c1;go_enter func274,ntmps274;go_wp2_with fail;rw[<-hw1];clear hw1;refine HU.out.mono ?_;rintro e w2⟨rfl,hb2⟩;have HB2:=hid hb2;obtain⟨c5,c6⟩:=HC.out w2 hb2;have HW:=hid (HIN.out w2);have HX:=hid c1;clear hb2 HU HIN c1;go_wp2_with fail;refine HW.out.mono ?_;rintro e w3⟨rfl,hb3⟩;have hb23:Below w2.heap.size w2 w3:=((Below.refl _ _).alloc (Nat.le_refl _) _).trans (hb3.mono (by simp));have hb13:=HB2.out.trans (hb23.mono HB2.out.size);have HE:=hid (HB.out.trans (hb13.mono HB.out.size));obtain⟨d5,d6⟩:=HC.out w3 hb13;clear hb3 hb23 hb13 HW HC HB HB2 c5 c6;cases bb with
 | false=>
  obtain rfl:=E.out.2.1 rfl;clear E;go_wp2_with fail;go_ret2;exact⟨rfl,HE.out⟩
 | true=>
  have e3:=E.out.2.2.1 HX.out rfl;have e4:=E.out.2.2.2 HX.out rfl;have E3:=hid e3;have E4:=hid e4;clear E e3 e4;by_cases c2:more<1
  · have k2:decide (more<1)=true:=decide_eq_true c2;obtain rfl:=E3.out (.inl c2);clear E3 E4 c2;go_wp2_with fail;go_ret2;exact⟨rfl,HE.out⟩
  · have k2:decide (more<1)=false:=decide_eq_false c2;by_cases c3:wrap64 (us+more)<=li
    · have k3:decide (wrap64 (us+more)<=li)=true:=decide_eq_true c3;obtain rfl:=E3.out (.inr c3);clear E3 E4 c2 c3;go_wp2_with fail;go_ret2;exact⟨rfl,HE.out⟩
    · have k3:decide (wrap64 (us+more)<=li)=false:=decide_eq_false c3;have e4:=E4.out (by omega);clear E3 E4 c2 c3;cases ab with
      | true=>
       obtain rfl:=e4;go_wp2_with fail;go_ret2;exact⟨rfl,HE.out⟩
      | false=>
       obtain rfl:=e4;go_wp2_with fail;go_ret2;exact⟨rfl,HE.out⟩
theorem Zg0{x:Nd}(h:ZbR x)(p e q:Int):ZbR (growN x p e q):=by
 intro v hv;simp only[growN,List.mem_cons,List.not_mem_nil,or_false]at hv;rcases hv with rfl|rfl|rfl|rfl|rfl|rfl|rfl|rfl|rfl|rfl|rfl
 · exact h _ (by simp)
 · exact h _ (by simp)
 · exact h _ (by simp)
 · exact h _ (by simp)
 · exact h _ (by simp)
 · exact h _ (by simp)
 · exact ZbG _
 · exact ZbG _
 · exact ZbG _
 · exact h _ (by simp)
 · exact h _ (by simp)
theorem Zh6(x:Nd)(p e q:Int)(w:World):Calls prog 239 #[.agg #[.int .i64 x.y,.int .i64 x.i,.int .i64 x.p,.int .i64 x.f,.int .i64 x.o,.bool x.ab,.int .i64 x.li,.int .i64 x.pr,.int .i64 x.en,.int .i64 x.ex,.int .i64 x.la,.int .i64 x.ca],.int .i64 p,.int .i64 e,.int .i64 q] w fun r w'=>r=.returned (.agg #[.int .i64 (growN x p e q).y,.int .i64 (growN x p e q).i,.int .i64 (growN x p e q).p,.int .i64 (growN x p e q).f,.int .i64 (growN x p e q).o,.bool (growN x p e q).ab,.int .i64 (growN x p e q).li,.int .i64 (growN x p e q).pr,.int .i64 (growN x p e q).en,.int .i64 (growN x p e q).ex,.int .i64 (growN x p e q).la,.int .i64 (growN x p e q).ca])/\Below w.heap.size w w':=by
 unfold growN;obtain⟨y,i,pp,f,o,ab,li,pr,en,ex,la,ca⟩:=x;simp only;go_enter func239,ntmps239;go_wp2_with fail;refine bodyPost_ret (results_cell_row rfl _ _ (w.heap.size+1) _ _ _ _ rfl (heap_alloc2_new w _ _) underlying40 rfl Zad) rfl ?_;exact⟨rfl,((Below.refl _ _).alloc (Nat.le_refl _) _).alloc (by simp) _⟩
theorem ZmT(x:Nd)(hx:ZbR x)(p e q:Int)(w:World):Calls prog 238 #[.agg #[.int .i64 x.y,.int .i64 x.i,.int .i64 x.p,.int .i64 x.f,.int .i64 x.o,.bool x.ab,.int .i64 x.li,.int .i64 x.pr,.int .i64 x.en,.int .i64 x.ex,.int .i64 x.la,.int .i64 x.ca],.int .i64 p,.int .i64 e,.int .i64 q] w fun r w'=>r=.returned (.tuple #[.bool (chkN x p e q).1,.int .i64 (chkN x p e q).2])/\Below w.heap.size w w':=by
 obtain⟨w1,hw1⟩:∃w1,w1=w.alloc (.cells #[.int .i64 x.y,.int .i64 x.i,.int .i64 x.p,.int .i64 x.f,.int .i64 x.o,.bool x.ab,.int .i64 x.li,.int .i64 x.pr,.int .i64 x.en,.int .i64 x.ex,.int .i64 x.la,.int .i64 x.ca] 40):=⟨_,rfl⟩
 have hb1:Below w.heap.size w w1:=by rw[hw1];exact(Below.refl _ _).alloc (Nat.le_refl _) _
 have hblk:w1.heap[w.heap.size]?=some (.cells #[.int .i64 x.y,.int .i64 x.i,.int .i64 x.p,.int .i64 x.f,.int .i64 x.o,.bool x.ab,.int .i64 x.li,.int .i64 x.pr,.int .i64 x.en,.int .i64 x.ex,.int .i64 x.la,.int .i64 x.ca] 40 (0,0)):=by rw[hw1];exact heap_alloc_new w _
 have hs1:w1.heap.size=w.heap.size+1:=by rw[hw1];simp
 have HR1:=hid (fun W=>Zea x hx W);have HG:=hid (fun W=>Zh6 x p e q W);have HR2:=hid (fun W=>Zea (growN x p e q) (Zg0 hx p e q) W);have HAL:=hid (fun W=>ZlC x hx (wrap64 (wrap64 (p+e)+q)) (ZbG _) W);have HC:=hid (show ∀W,Below w1.heap.size w1 W->W.heap[w.heap.size]?=some (.cells #[.int .i64 x.y,.int .i64 x.i,.int .i64 x.p,.int .i64 x.f,.int .i64 x.o,.bool x.ab,.int .i64 x.li,.int .i64 x.pr,.int .i64 x.en,.int .i64 x.ex,.int .i64 x.la,.int .i64 x.ca] 40 (0,0))from fun W hW=>(hW.block w.heap.size (by omega)).trans hblk);have HB:=hid hb1;have e1:rightN x=false->chkN x p e q=(false,9):=fun h=>by unfold chkN;rw[if_pos (.inl h)]
 have e2:rightN (growN x p e q)=false->chkN x p e q=(false,9):=fun h=>by unfold chkN;rw[if_pos (.inr h)]
 have e3:rightN x=true->rightN (growN x p e q)=true->(allowsN x (wrap64 (wrap64 (p+e)+q))).1=true->chkN x p e q=((allowsN x (wrap64 (wrap64 (p+e)+q))).2,0):=fun h g k=>by unfold chkN;rw[if_neg (by rw[h,g];simp),if_pos k]
 have e4:rightN x=true->rightN (growN x p e q)=true->(allowsN x (wrap64 (wrap64 (p+e)+q))).1=false->chkN x p e q=(false,11):=fun h g k=>by unfold chkN;rw[if_neg (by rw[h,g];simp),if_neg (by rw[k];decide)]
 have E:=hid (And.intro e1 (And.intro e2 (And.intro e3 e4)));clear e1 e2 e3 e4 hx hblk hs1 hb1;generalize growN x p e q=G at HG HR2 E;generalize rightN x=r1 at HR1 E;generalize rightN G=r2 at HR2 E;generalize allowsN x (wrap64 (wrap64 (p+e)+q))=al at HAL E;generalize chkN x p e q=res at E ⊢;obtain⟨al1,al2⟩:=al;obtain⟨y,i,pp,f,o,ab,li,pr,en,ex,la,ca⟩:=x;simp only at HR1 HG HAL HC E hw1 ⊢;go_enter func238,ntmps238;go_wp2_with fail;rw[<-hw1];clear hw1;refine(HR1.out _).mono ?_;rintro r w2⟨rfl,hb2⟩;obtain⟨z0,z1,z2,z3,z4,z5,z6,z7,z8,z9,z10,z11⟩:=Zq (HC.out w2 hb2);have HB2:=hid hb2;clear hb2 HR1;cases r1 with
 | false=>
  obtain rfl:=E.out.1 rfl;have HE:=hid (HB.out.trans (HB2.out.mono HB.out.size));clear E HC HG HR2 HAL;go_wp2_with fail;go_ret2;exact⟨rfl,HE.out⟩
 | true=>
  go_wp2_with fail;refine(HG.out _).mono ?_;rintro r w3⟨rfl,hb3⟩;have hb13:=HB2.out.trans (hb3.mono HB2.out.size);obtain⟨y0,y1,y2,y3,y4,y5,y6,y7,y8,y9,y10,y11⟩:=Zq (HC.out w3 hb13);have HB3:=hid hb13;clear hb3 hb13 HG HB2 z0 z1 z2 z3 z4 z5 z6 z7 z8 z9 z10 z11;go_wp2_with fail;refine(HR2.out _).mono ?_;rintro r w4⟨rfl,hb4⟩;have hb14:=HB3.out.trans (hb4.mono HB3.out.size);obtain⟨x0,x1,x2,x3,x4,x5,x6,x7,x8,x9,x10,x11⟩:=Zq (HC.out w4 hb14);have HB4:=hid hb14;clear hb4 hb14 HR2 HB3 y0 y1 y2 y3 y4 y5 y6 y7 y8 y9 y10 y11;cases r2 with
  | false=>
   obtain rfl:=E.out.2.1 rfl;have HE:=hid (HB.out.trans (HB4.out.mono HB.out.size));clear E HC HAL;go_wp2_with fail;go_ret2;exact⟨rfl,HE.out⟩
  | true=>
   go_wp2_with fail;refine(HAL.out _).mono ?_;rintro r w5⟨rfl,hb5⟩;have HE:=hid (HB.out.trans ((HB4.out.trans (hb5.mono HB4.out.size)).mono HB.out.size));clear hb5 HAL HB4 HC x0 x1 x2 x3 x4 x5 x6 x7 x8 x9 x10 x11;cases al1 with
   | true=>
    obtain rfl:=E.out.2.2.1 (by first|rfl|trivial) (by first|rfl|trivial) (by first|rfl|trivial);clear E;go_wp2_with fail;go_ret2;exact⟨rfl,HE.out⟩
   | false=>
    obtain rfl:=E.out.2.2.2 (by first|rfl|trivial) (by first|rfl|trivial) (by first|rfl|trivial);clear E;go_wp2_with fail;go_ret2;exact⟨rfl,HE.out⟩
end Go.Proofs.YtiknkbpojmgbhaaGreat
