/- DocP, DocA, DocB, DocC, DocD, DocE. Conditions: in each theorem. -/
import Derived.Test.YtiknkbpojmgbhaaGreatTreP
import Derived.Test.YtiknkbpojmgbhaaGreatRecA
import Derived.Test.YtiknkbpojmgbhaaGreatRecD
import Derived.Test.YtiknkbpojmgbhaaGreatRecG
import Derived.Test.YtiknkbpojmgbhaaGreatManS
import Derived.Test.YtiknkbpojmgbhaaGreatSeqP
import Derived.Test.YtiknkbpojmgbhaaGreatViewC
import Derived.Test.YtiknkbpojmgbhaaGreatRecF
import Derived.Test.YtiknkbpojmgbhaaGreatSeqS
import Derived.Deep.RegionHeld3
import Derived.Laws.ResultCell
import Derived.Lib.AppendZeros
import Derived.Test.YtiknkbpojmgbhaaGreatIntApp
import Derived.WalkMore
set_option maxHeartbeats 12800000
set_option maxRecDepth 100000
set_option linter.unusedVariables false
open Go.Proofs.Tryz
open Go.Lib (hid)
namespace Go.Proofs.YtiknkbpojmgbhaaGreat
open Go.RowKit Go.Maps
structure Dc where
 i:Int
 k:Int
 y:Int
 f:Int
 n:Int
structure Dl where
 nd:Int
 o:Int
 l:Int
 c:Int
def dcV(x:Dc):List Value:=[.int .i64 x.i,.int .i64 x.k,.int .i64 x.y,.int .i64 x.f,.int .i64 x.n]
def dlV(x:Dl):List Value:=[.int .i64 x.nd,.int .i64 x.o,.int .i64 x.l,.int .i64 x.c]
def ZmW(x:Dc):Prop:=ZbL [x.i,x.k,x.y,x.f,x.n]
def ZaE(x:Dl):Prop:=ZbL [x.nd,x.o,x.l,x.c]
def DlE:Enc Dl:=⟨dlV,4,ZaE,fun _=>rfl,by decide,fun x u hu=>by
 unfold dlV at hu;simp only[List.mem_cons,List.not_mem_nil,or_false]at hu
 rcases hu with rfl|rfl|rfl|rfl <;> rfl⟩
def ZqW(r:List Int×List Int):Dc:=⟨r.1[0]?.getD 0,r.2[0]?.getD 0,r.2[1]?.getD 0,r.2[2]?.getD 0,r.2[3]?.getD 0⟩
def Zq7(r:List Int×List Int):Dl:=⟨r.2[0]?.getD 0,r.2[1]?.getD 0,r.2[2]?.getD 0,r.2[3]?.getD 0⟩
def dcK(x:KV):Option Dc:=(numsR x 68 1 4).map ZqW
def dlK(x:KV):Option Dl:=(numsR x 76 2 4).map Zq7
def Zbt:Dc:=⟨0,0,0,0,0⟩
def Zav:Dl:=⟨0,0,0,0⟩
def dcW(o:Option Dc):Value:=.agg #[.int .i64 (o.getD Zbt).i,.int .i64 (o.getD Zbt).k,.int .i64 (o.getD Zbt).y,.int .i64 (o.getD Zbt).f,.int .i64 (o.getD Zbt).n]
def dlW(o:Option Dl):Value:=.agg #[.int .i64 (o.getD Zav).nd,.int .i64 (o.getD Zav).o,.int .i64 (o.getD Zav).l,.int .i64 (o.getD Zav).c]
theorem ZpM(x:KV):Zq5 (numsR x 68 1 4)=dcW (dcK x):=by
 unfold dcK;cases numsR x 68 1 4 with
 | none=>rfl
 | some r=>rfl
theorem ZfY(x:KV):ZhC (numsR x 76 2 4)=dlW (dlK x):=by
 unfold dlK;cases numsR x 76 2 4 with
 | none=>rfl
 | some r=>rfl
theorem ZkX(x:KV):(numsR x 68 1 4).isSome=(dcK x).isSome:=by
 unfold dcK
 cases numsR x 68 1 4 <;> rfl
theorem ZkY(x:KV):(numsR x 76 2 4).isSome=(dlK x).isSome:=by
 unfold dlK
 cases numsR x 76 2 4 <;> rfl
theorem Zdm{l:List Int}(h:∀x∈l,-9223372036854775808<=x/\x<=9223372036854775807)(k:Nat) : -9223372036854775808<=l[k]?.getD 0/\l[k]?.getD 0<=9223372036854775807:=by
 rcases Nat.lt_or_ge k l.length with hk|hk
 · rw[List.getElem?_eq_getElem hk];exact h _ (List.getElem_mem hk)
 · rw[List.getElem?_eq_none hk];exact⟨by decide,by decide⟩
theorem ZfZ{x:KV}(hk:Zm x.1)(hv:Zm x.2){t:Int}{i j:Nat}{r:List Int×List Int}(h:numsR x t i j=some r):ZbL r.1/\ZbL r.2:=by
 unfold numsR at h
 split at h
 · have h:=Option.some.inj h;subst h;refine⟨fun z hz=>?_,fun z hz=>?_⟩
   · simp only[]at hz;unfold splitK Zco at hz
     split at hz
     · exact Z1 4 x.1 _ _ hk z hz
     · cases hz
   · simp only[]at hz;unfold unpackR at hz
     split at hz
     · split at hz
       · exact Z1 8 x.2 _ _ hv z hz
       · cases hz
     · cases hz
 · cases h
theorem ZpN{x:KV}(hk:Zm x.1)(hv:Zm x.2){d:Dc}(h:dcK x=some d):ZmW d:=by
 unfold dcK at h;obtain⟨r,hr,rfl⟩:=Option.map_eq_some_iff.1 h;obtain⟨a1,a2⟩:=ZfZ hk hv hr;intro z hz;simp only[ZqW,List.mem_cons,List.not_mem_nil,or_false]at hz;rcases hz with rfl|rfl|rfl|rfl|rfl
 · exact Zdm a1 0
 · exact Zdm a2 0
 · exact Zdm a2 1
 · exact Zdm a2 2
 · exact Zdm a2 3
theorem ZmX{x:KV}(hk:Zm x.1)(hv:Zm x.2){d:Dl}(h:dlK x=some d):ZaE d:=by
 unfold dlK at h;obtain⟨r,hr,rfl⟩:=Option.map_eq_some_iff.1 h;obtain⟨a1,a2⟩:=ZfZ hk hv hr;intro z hz;simp only[Zq7,List.mem_cons,List.not_mem_nil,or_false]at hz;rcases hz with rfl|rfl|rfl|rfl
 · exact Zdm a2 0
 · exact Zdm a2 1
 · exact Zdm a2 2
 · exact Zdm a2 3
abbrev dKy(i:Int):Txt:=tx (Zi 68 [i])
abbrev lKy(i j:Int):Txt:=tx (Zi 76 [i,j])
theorem Zh8(i:Int):(Zi 68 [i]).length=5:=by unfold Zi;rw[Zt];rfl
theorem Zeb(i j:Int):(Zi 76 [i,j]).length=9:=by unfold Zi;rw[Zt];rfl
def ZpZ(x:Dc):List Int:=Zj 8 [x.k,x.y,x.f,x.n]
def Zg1(x:Dl):List Int:=Zj 8 [x.nd,x.o,x.l,x.c]
def ZaQ(n:Int):Bool:=decide (0<=n)&&decide (n<=4294967295)
theorem Zaa(n:Int):ZaQ n=true↔0<=n/\n<4294967296:=by unfold ZaQ;simp only[Bool.and_eq_true,decide_eq_true_eq];omega
def VS.putD(S:VS)(x:Dc):VS:=S.put (dKy x.i) (ZpZ x)
def VS.putL(S:VS)(i j:Int)(x:Dl):VS:=S.put (lKy i j) (Zg1 x)
def putLs(S:VS)(i:Int):Nat->List Dl->VS
 | _,[]=>S
 | j,x::r=>putLs (S.putL i j x) i (j+1) r
theorem Zf0(i:Int)(x:Dl):∀(l:List Dl) (S:VS) (j:Nat),putLs S i j (l++[x])=(putLs S i j l).putL i ((j+l.length:Nat):Int) x
 | [],S,j=>rfl
 | y::l,S,j=>by
  rw[List.cons_append];unfold putLs;rw[Zf0 i x l _ (j+1),List.length_cons,show j+1+l.length=j+(l.length+1) by omega]
theorem Zf1(S:VS)(i:Int){l:List Dl}{j:Nat}{x:Dl}(h:l[j]?=some x):putLs S i 0 (l.take (j+1))=(putLs S i 0 (l.take j)).putL i j x:=by
 obtain⟨hj,rfl⟩:=List.getElem?_eq_some_iff.1 h;rw[List.take_succ_eq_append_getElem hj,Zf0,List.length_take,Nat.min_eq_left (by omega),Nat.zero_add]
def docAt(S:VS)(i:Int):Option Dc:=dcK (Zi 68 [i],(S.now (dKy i)).getD [])
def lineAt(S:VS)(i j:Int):Option Dl:=dlK (Zi 76 [i,j],(S.now (lKy i j)).getD [])
def ZM(S:VS)(i:Int):Nat->Option (List Dl)
 | 0=>some []
 | n+1=>match ZM S i n with
  | none=>none
  | some l=>match lineAt S i n with
   | none=>none
   | some x=>some (l++[x])
theorem ZaK{S:VS}{i:Int}:∀{n:Nat} {l:List Dl},ZM S i n=some l->l.length=n
 | 0,l,h=>by cases h;rfl
 | n+1,l,h=>by
  unfold ZM at h
  split at h
  · cases h
  · rename_i m hm
    split at h
    · cases h
    · cases h;rw[List.length_append,ZaK hm];rfl
theorem Zec{S:VS}{i:Int}:∀{n m:Nat},n<=m->ZM S i n=none->ZM S i m=none
 | n,0,hn,h=>by
  obtain rfl:n=0:=by omega
  exact h
 | n,m+1,hn,h=>by
  rcases Nat.lt_or_ge m n with hlt|hge
  · obtain rfl:n=m+1:=by omega
    exact h
  · unfold ZM;rw[Zec hge h]
def Zcj(x:Dc):Bool:=decide (1<=x.n)&&decide (x.n<=6)
def docGet(S:VS)(i:Int):Option (Dc×List Dl):=
 if ZaQ i=true then
  match docAt S i with
  | none=>none
  | some d=>if Zcj d=true then(ZM S i d.n.toNat).map fun l=>(d,l)else none
 else none
def openL(x:Dl):Int:=wrap64 (wrap64 (x.o-x.l)-x.c)
def putDoc(S:VS)(d:Dc)(l:List Dl):(Int×Int)×VS:=
 if l.length<1∨l.length>6 then((0,1),S)
 else if(nextE (seqV (S.now (tx (Zi 83 [2]))))).2=0 then((seqV (S.now (tx (Zi 83 [2])))+1,0),(putLs (S.next 2) (seqV (S.now (tx (Zi 83 [2])))+1) 0 l).putD ⟨seqV (S.now (tx (Zi 83 [2])))+1,d.k,d.y,d.f,l.length⟩)
 else((0,9),S)
theorem ZkZ{S:VS}{n:Int}(h:(nextE (seqV (S.now (tx (Zi 83 [n]))))).2≠0):S.next n=S/\nextE (seqV (S.now (tx (Zi 83 [n]))))=(0,9):=by
 by_cases hc:seqV (S.now (tx (Zi 83 [n])))<0∨seqV (S.now (tx (Zi 83 [n])))≥4294967295
 · exact⟨by unfold VS.next;rw[if_pos hc],by unfold nextE;rw[if_pos hc]⟩
 · exfalso
   unfold nextE at h;rw[if_neg hc]at h;exact h rfl
theorem Zg2{S:VS}{n:Int}(h:(nextE (seqV (S.now (tx (Zi 83 [n]))))).2=0):nextE (seqV (S.now (tx (Zi 83 [n]))))=(seqV (S.now (tx (Zi 83 [n])))+1,0)/\0<=seqV (S.now (tx (Zi 83 [n])))/\seqV (S.now (tx (Zi 83 [n])))<4294967295:=by
 by_cases hc:seqV (S.now (tx (Zi 83 [n])))<0∨seqV (S.now (tx (Zi 83 [n])))≥4294967295
 · exfalso
   unfold nextE at h;rw[if_pos hc]at h;cases h
 · exact⟨by unfold nextE;rw[if_neg hc],by omega,by omega⟩
def setLine(S:VS)(i j:Int)(x:Dl):Int×VS:=
 match docGet S i with
 | none=>(7,S)
 | some (_,l)=>if 0<=j/\j<(l.length:Int)then(0,S.putL i j x)else(7,S)
theorem Zk0(x:Dc):putE (Zi 68 [x.i]) (ZpZ x)=0:=by
 unfold putE;rw[if_neg];unfold ZpZ;rw[Zh8,Zh];simp
theorem Zh9(i j:Int)(x:Dl):putE (Zi 76 [i,j]) (Zg1 x)=0:=by
 unfold putE;rw[if_neg];unfold Zg1;rw[Zeb,Zh];simp
theorem ZoI{i j:Int}{x:Dl}(h:ZaE x)(hi:ZaQ i=true)(hj:ZaQ j=true):dlK (Zi 76 [i,j],Zg1 x)=some x:=by
 have a:=(Zaa _).1 hi;have b:=(Zaa _).1 hj;unfold dlK Zg1
 rw[ZgB (i:=2) (j:=4) (by intro v hv;simp only[List.mem_cons,List.not_mem_nil,or_false]at hv;rcases hv with rfl|rfl <;> omega) (by
  intro v hv;simp only[List.mem_cons,List.not_mem_nil,or_false]at hv;rcases hv with rfl|rfl|rfl|rfl
  · exact h _ (by simp)
  · exact h _ (by simp)
  · exact h _ (by simp)
  · exact h _ (by simp)) rfl (by omega) rfl (by omega)]
 rfl
theorem Zia{s t:Int}(hs:0<=s/\s<256)(ht:0<=t/\t<256)(hst:s≠t)(l m:List Int):tx (Zi s l)≠tx (Zi t m):=fun e=>by
 have h:=Zlv (Z3 hs l) (Z3 ht m) e;unfold Zi ZdI at h;injection h with h1 _;exact hst h1
theorem ZmY{i j j':Int}(hj:ZaQ j=true)(hj':ZaQ j'=true)(h:lKy i j=lKy i j'):j=j':=by
 have a:=(Zaa _).1 hj;have b:=(Zaa _).1 hj';have h1:=Zlv (Z3 (by omega) _) (Z3 (by omega) _) h;unfold Zi ZdI at h1;injection h1 with _ h2;rw[List.take_of_length_le (by simp),List.take_of_length_le (by simp)]at h2;simp only[List.map_cons,List.map_nil]at h2;have h3:ZaS (Zn i) 4++(ZaS (Zn j) 4++[])=ZaS (Zn i) 4++(ZaS (Zn j') 4++[]):=h2;have h4:=List.append_cancel_left h3;rw[List.append_nil,List.append_nil]at h4;have h5:=congrArg numOf h4;have e1:Zn j=j:=by unfold Zn;omega
 have e2:Zn j'=j':=by unfold Zn;omega
 rw[e1,e2,ZqH a,ZqH b]at h5;exact h5
section
variable{w w':World}{X:Nat->Prop}{v m c:Nat}{S:VS}
theorem ZeT(h:Ze w X v m c S){kA vA:Option Addr}{nk kc nv vc:Nat}{K V:List Int}(hk:RB w w.heap.size kA nk K)(hv:RB w w.heap.size vA nv V)(hnk:nk<=maxLen)(hnv:nv<=maxLen)(h0:putE K V=0)(hC:S.C.length<maxLen) :
 Calls prog 191 #[.agg #[.pointer (some ⟨v,0,none⟩)],.agg #[.slice kA nk kc,.slice vA nv vc]] w fun e w'=>e=.returned (.int .i64 0)/\Ze w' X v m c (S.put (tx K) V)/\Za (fun k=>k=c) w w':=by
 obtain⟨w1,hw1⟩:∃w1,w1=(w.alloc (.cells #[.pointer (some ⟨v,0,none⟩)] 96)).alloc (.cells #[.slice kA nk kc,.slice vA nv vc] 101):=⟨_,rfl⟩
 have hb1:Below w.heap.size w w1:=by rw[hw1];exact((Below.refl _ _).alloc (Nat.le_refl _) _).alloc (by simp) _
 have HP:=hid (ZcU (k:=kc) (k':=vc) (h.below hb1) (hk.below hb1) hb1.size hnk (hv.below hb1) hb1.size hnv hC);rw[h0,show S.putR K V=S.put (tx K) V by unfold VS.putR;rw[if_pos h0]]at HP;have HT:=hid (Za.of_below (F:=fun k=>k=c) hb1);clear h hk hv hb1 h0 hC;go_enter func191,ntmps191;go_wp2_with fail;rw[<-hw1];clear hw1;refine HP.out.mono ?_;rintro e w2⟨rfl,h2,t2⟩;have HE:=hid (And.intro h2 (HT.out.trans t2));clear h2 t2 HP HT;go_wp2_with fail;go_ret;exact⟨rfl,HE.out⟩
theorem Zp0{w4:World}{B g n k:Nat}{A:Option Addr}{l:List Int}(h:SV w4 (fun k=>k<B) (.slice A n k) l)(hg:g<B)(x y:Value):n<=k/\n<=140737488355328/\RB ((w4.setCell ⟨g,0,none⟩ x).setCell ⟨g,1,none⟩ y) w4.heap.size A n l:=by
 obtain⟨A',n',k',e,h1,h2,h3,h4⟩:=h;cases e;refine⟨h1,h2,h3.1,h3.2.1,fun hn=>?_⟩;obtain⟨b,off,rfl,hb,hc⟩:=h3.2.2 hn;have hbB:¬b<B:=h4 ⟨b,off,none⟩ rfl hn;refine⟨b,off,rfl,hb,fun j hj=>?_⟩
 have e:((w4.setCell ⟨g,0,none⟩ x).setCell ⟨g,1,none⟩ y).heap[b]?=w4.heap[b]?:=by
  rw[heap_setCell_other _ _ _ _ (show b≠g by omega),heap_setCell_other _ _ _ _ (show b≠g by omega)]
 exact(World.cell?_of_block (a:=⟨b,off+j,none⟩) e).trans (hc j hj)
def ZpO(w w':World)(e:Ending)(m:Nat)(K V:List Int):Prop:=
 ∃A k Au nu ku,e=.returned (.agg #[.slice A m k,.slice Au nu ku])/\m<=k/\RB w' w'.heap.size A m K/\nu<=ku/\nu<=140737488355328/\RB w' w'.heap.size Au nu V/\Below w.heap.size w w'
theorem Zed(h:Ze w X v m c S)(t:Int)(l:List Int)(n mm:Nat)(ht:0<=t/\t<256)(hl:ZbL l)(hn:l.length=n)(h7:n<=7)(hm:1+4*n=mm)(g:Nat)(hr:ZR w g l) :
 Calls prog 52 #[.agg #[.pointer (some ⟨v,0,none⟩)],.int .u8 t,.slice (some ⟨g,0,none⟩) n n] w fun e w'=>ZpO w w' e mm (Zi t l) ((S.now (tx (Zi t l))).getD []):=by
 obtain⟨w1,hw1⟩:∃w1,w1=(w.alloc (.cells #[.pointer (some ⟨v,0,none⟩)] 96)).alloc (.cells #[.slice none 0 0,.slice none 0 0] 101):=⟨_,rfl⟩
 have hb1:Below w.heap.size w w1:=by rw[hw1];exact((Below.refl _ _).alloc (Nat.le_refl _) _).alloc (by simp) _
 have hs1:w1.heap.size=w.heap.size+2:=by rw[hw1];simp
 have b0:w1.heap[w.heap.size]?=some (.cells #[.pointer (some ⟨v,0,none⟩)] 96 (0,0)):=by rw[hw1];exact((((Below.refl (w.alloc _).heap.size _).alloc (Nat.le_refl _) _).block _ (by simp)).trans (heap_alloc_new w _))
 have b1:w1.heap[w.heap.size+1]?=some (.cells #[.slice none 0 0,.slice none 0 0] 101 (0,0)):=by rw[hw1];exact heap_alloc2_new _ _ _
 have HK:=hid (Zep t l n mm ht hl hn h7 hm w1 g (hr.later hb1));have HBK:=hid (show ∀W,Below w1.heap.size w1 W->W.heap[w.heap.size]?=some (.cells #[.pointer (some ⟨v,0,none⟩)] 96 (0,0))/\W.heap[w.heap.size+1]?=some (.cells #[.slice none 0 0,.slice none 0 0] 101 (0,0))from fun W hW=>⟨(hW.block _ (by omega)).trans b0,(hW.block _ (by omega)).trans b1⟩);have HV:=hid (show ∀W,Below w1.heap.size w1 W->Ze W X v m c S from fun W hW=>h.below (hb1.trans (hW.mono hb1.size)));have hkl:(Zi t l).length=mm:=by rw[Zlq t l (by omega),hn];exact hm
 have hmm:mm<=maxLen:=by unfold maxLen;omega
 have HT:=hid (And.intro ht (And.intro hb1 (And.intro hs1 (And.intro hkl hmm))));clear h hl hr hb1 hs1 b0 b1 hn h7 hm hkl hmm;go_enter func52,ntmps52;go_wp2_with fail;rw[<-hw1];clear hw1;refine HK.out.mono ?_;rintro e w3⟨A,k,rfl,ho⟩;obtain⟨A',k',e',hk',hrd⟩:=ho.read (Zk HT.out.1 _);injection e' with q1 q2 q3;subst q1 q3;rw[HT.out.2.2.2.1]at hrd hk';have c0:w3.cell? ⟨w.heap.size,0,none⟩=some (.pointer (some ⟨v,0,none⟩)):=by rw[cell_of_row w3 _ 0 _ _ (0,0) (HBK.out w3 ho.2).1];rfl
 have HG:=hid (ZdE (k:=k) (HV.out w3 ho.2) hrd (Nat.le_refl _) HT.out.2.2.2.2);have HO:=hid ho;have HK':=hid hk';clear ho hrd HK q2 hk';go_wp2_with fail;refine HG.out.mono ?_;rintro e w4⟨u,rfl,hs,hb4⟩;have hsu:=hs;obtain⟨Au,nu,ku,rfl,_⟩:=hsu;have hg3:w.heap.size+1<w3.heap.size:=by have:=HT.out.2.2.1;have:=HO.out.2.size;omega
 have hb14:=HO.out.2.trans (hb4.mono HO.out.2.size);have hblk:=(HBK.out w4 hb14).2;have f0:w4.frozen? ⟨w.heap.size+1,0,none⟩=false:=by simp[World.frozen?,hblk]
 have f1:w4.frozen? ⟨w.heap.size+1,1,none⟩=false:=by simp[World.frozen?,hblk]
 have d0:=ZA hblk;have d1:=ZB hblk;have HR:=hid (ZaM (x:=.slice A mm k) (y:=.slice Au nu ku) hblk)
 have HE:=hid (show ZpO w ((w4.setCell ⟨w.heap.size+1,0,none⟩ (.slice A mm k)).setCell ⟨w.heap.size+1,1,none⟩ (.slice Au nu ku)) (.returned (.agg #[.slice A mm k,.slice Au nu ku])) mm (Zi t l) ((S.now (tx (Zi t l))).getD [])from by
  have ho:=(HO.out.later hb4).boxed (g:=w.heap.size+1) (x:=.slice A mm k) (y:=.slice Au nu ku) HT.out.2.1 (by omega) (by have:=HT.out.2.2.1;omega);obtain⟨A',k',e',hk',hrd⟩:=ho.read (Zk HT.out.1 _);injection e' with q1 q2 q3;subst q1 q3;rw[HT.out.2.2.2.1]at hrd hk';obtain⟨s1,s2,s3⟩:=Zp0 hs hg3 (.slice A mm k) (.slice Au nu ku)
  exact⟨A,k,Au,nu,ku,rfl,hk',hrd,s1,s2,s3.more (by simp),ho.2⟩)
 clear hs hb4 hg3 hb14 hblk HG c0 HBK HV HO HK' HT;go_wp2_with fail;refine bodyPost_ret (results_cell_row rfl _ _ (w.heap.size+1) _ _ _ _ rfl HR.out underlying101 rfl Zak) rfl ?_;exact HE.out
theorem ZoJ(x:Dl)(w:World):Calls prog 54 #[.agg #[.int .i64 x.nd,.int .i64 x.o,.int .i64 x.l,.int .i64 x.c]] w fun e w'=>e=.returned (.int .i64 (openL x))/\Below w.heap.size w w':=by
 have HB:=hid (show Below w.heap.size w (w.alloc (.cells #[.int .i64 x.nd,.int .i64 x.o,.int .i64 x.l,.int .i64 x.c] 50))from(Below.refl _ _).alloc (Nat.le_refl _) _);unfold openL;obtain⟨nd,o,l,c⟩:=x;simp only at HB ⊢;go_enter func54,ntmps54;go_wp2_with fail;go_ret;exact⟨rfl,HB.out⟩
end
theorem Zib:(prog.info? 50).map (fun i=>(i.zero,i.size,i.bytes))=some (some (.agg #[.int .i64 0,.int .i64 0,.int .i64 0,.int .i64 0]),4,32):=by kernel_rfl
theorem DlT:DlE.Ty 45 50:=by
 obtain⟨i0,hi,hz0,hz1,hz2⟩:=info_parts Zib;exact⟨underlying45,i0,_,hi,hz0,hz1,by omega,rfl⟩
theorem ZlF{w:World}{B:Nat}{A:Option Addr}{n:Nat}{l:List Dl}(h:DlE.R w B A n l){j:Nat}{x:Dl}(hx:l[j]?=some x):∃b off,A=some ⟨b,off,none⟩/\b<B/\w.cell? ⟨b,off+j*4,none⟩=some (.int .i64 x.nd)/\w.cell? ⟨b,off+j*4+1,none⟩=some (.int .i64 x.o)/\w.cell? ⟨b,off+j*4+2,none⟩=some (.int .i64 x.l)/\w.cell? ⟨b,off+j*4+3,none⟩=some (.int .i64 x.c):=by
 have hj:=(List.getElem?_eq_some_iff.1 hx).1;obtain⟨b,off,rfl,hb,hc⟩:=h.2.2 (by rw[<-h.len];omega);have h2:=hc j x hx;exact⟨b,off,rfl,hb,h2 0 (by decide),h2 1 (by decide),h2 2 (by decide),h2 3 (by decide)⟩
theorem Zic{w w':World}{B c:Nat}{A:Option Addr}{n:Nat}{l:List Dl}(h:DlE.R w B A n l)(hB:B<=w.heap.size)(hm:∃es k,w.heap[c]?=some (.map es k))(ht:Za (fun k=>k=c) w w'):DlE.R w' B A n l:=by
 refine⟨h.1,h.2.1,fun hn=>?_⟩;obtain⟨b,off,rfl,hb,hc⟩:=h.2.2 hn;refine⟨b,off,rfl,hb,fun j x hx k hk=>?_⟩;have hcell:=hc j x hx k hk;rw[<-hcell];refine World.cell?_of_block (a:=⟨b,off+j*DlE.K+k,none⟩) (ht.block b (Nat.lt_of_lt_of_le hb hB) fun e=>?_);subst e;obtain⟨es,z,e2⟩:=hm;have h4:k<(DlE.V x).length:=by rw[DlE.len];exact hk
 rw[show(DlE.V x)[k]?=some ((DlE.V x)[k]'h4)from List.getElem?_eq_getElem h4]at hcell;simp[World.cell?,e2]at hcell
theorem ZmZ{w:World}{X:Nat->Prop}{v m c:Nat}{S:VS}(h:Ze w X v m c S):∃es k,w.heap[c]?=some (.map es k):=by
 obtain⟨f,h1,_⟩:=h.chg;exact h1.block
theorem ZeU(i:Int):∀(l:List Dl) (S:VS) (j:Nat),(putLs S i j l).C.length<=S.C.length+l.length
 | [],S,j=>Nat.le_refl _
 | x::r,S,j=>by
  show(putLs (S.putL i j x) i (j+1) r).C.length<=_
  have h1:=ZeU i r (S.putL i j x) (j+1);have h2:(S.putL i j x).C.length<=S.C.length+1:=ZL _ _ _;rw[List.length_cons];omega
section
variable{w w':World}{X:Nat->Prop}{v m c:Nat}{S:VS}
theorem Zf2(h:Ze w X v m c S){kA vA:Option Addr}{kc vc:Nat}(i j:Int)(x:Dl)(hp:ZqN w kA 9 kc vA 32 vc (Zi 76 [i,j]) (Zj 8 [x.nd,x.o,x.l,x.c]))(hC:S.C.length<maxLen) :
 Calls prog 191 #[.agg #[.pointer (some ⟨v,0,none⟩)],.agg #[.slice kA 9 kc,.slice vA 32 vc]] w fun e w'=>e=.returned (.int .i64 0)/\Ze w' X v m c (S.putL i j x)/\Za (fun k=>k=c) w w':=
 ZeT h hp.k hp.v (by decide) (by decide) (Zh9 i j x) hC
theorem Zm0(h:Ze w X v m c S){kA vA:Option Addr}{kc vc:Nat}(x:Dc)(hp:ZqN w kA 5 kc vA 32 vc (Zi 68 [x.i]) (Zj 8 [x.k,x.y,x.f,x.n]))(hC:S.C.length<maxLen) :
 Calls prog 191 #[.agg #[.pointer (some ⟨v,0,none⟩)],.agg #[.slice kA 5 kc,.slice vA 32 vc]] w fun e w'=>e=.returned (.int .i64 0)/\Ze w' X v m c (S.putD x)/\Za (fun k=>k=c) w w':=
 ZeT h hp.k hp.v (by decide) (by decide) (Zk0 x) hC
theorem ZeV(h:Ze w X v m c S)(d:Dc)(hd:ZmW d){A:Option Addr}{n cap:Nat}{l:List Dl}(hr:DlE.R w w.heap.size A n l)(hcap:n<=cap)(hn:n<=maxLen)(hC:S.C.length<=1000000) :
 Calls prog 102 #[.pointer (some ⟨v,0,none⟩),.agg #[.int .i64 d.i,.int .i64 d.k,.int .i64 d.y,.int .i64 d.f,.int .i64 d.n],.slice A n cap] w fun e w'=>e=.returned (.tuple #[.int .i64 (putDoc S d l).1.1,.int .i64 (putDoc S d l).1.2])/\Ze w' X v m c (putDoc S d l).2/\Za (fun k=>k=c) w w':=by
 unfold maxLen at hn;obtain⟨w1,hw1⟩:∃w1,w1=w.alloc (.cells #[.int .i64 d.i,.int .i64 d.k,.int .i64 d.y,.int .i64 d.f,.int .i64 d.n] 44):=⟨_,rfl⟩
 have hb1:Below w.heap.size w w1:=by rw[hw1];exact(Below.refl _ _).alloc (Nat.le_refl _) _
 have hs1:w1.heap.size=w.heap.size+1:=by rw[hw1];simp
 have hblk:w1.heap[w.heap.size]?=some (.cells #[.int .i64 d.i,.int .i64 d.k,.int .i64 d.y,.int .i64 d.f,.int .i64 d.n] 44 (0,0)):=by rw[hw1];exact heap_alloc_new w _
 have hcw:c<w.heap.size:=h.lt c h.xc;have hlen:l.length=n:=hr.len;have h1:=h.below hb1;have HV1:=hid h1;have HR1:=hid ((hr.below hb1).more hb1.size);have HBK:=hid (And.intro hblk hs1);have HT1:=hid (Za.of_below (F:=fun k=>k=c) hb1);have e1:n<1∨n>6->putDoc S d l=((0,1),S):=fun h=>by unfold putDoc;rw[hlen,if_pos h]
 have e2:¬(n<1∨n>6)->(nextE (seqV (S.now (tx (Zi 83 [2]))))).2≠0->putDoc S d l=((0,9),S):=fun h g=>by unfold putDoc;rw[hlen,if_neg h,if_neg g]
 have e3:¬(n<1∨n>6)->(nextE (seqV (S.now (tx (Zi 83 [2]))))).2=0->putDoc S d l=((seqV (S.now (tx (Zi 83 [2])))+1,0),(putLs (S.next 2) (seqV (S.now (tx (Zi 83 [2])))+1) 0 l).putD ⟨seqV (S.now (tx (Zi 83 [2])))+1,d.k,d.y,d.f,n⟩):=fun h g=>by unfold putDoc;rw[hlen,if_neg h,if_pos g]
 have HNX:=Zjl h1 2 (by omega) (Nat.lt_of_le_of_lt hC (by decide));have b1:=fun(g:(nextE (seqV (S.now (tx (Zi 83 [2]))))).2≠0)=>ZkZ (S:=S) (n:=2) g
 have b2:=fun(g:(nextE (seqV (S.now (tx (Zi 83 [2]))))).2=0)=>Zg2 (S:=S) (n:=2) g
 have hnl:(S.next 2).C.length<=S.C.length+1:=Zpw S 2;generalize seqV (S.now (tx (Zi 83 [2])))=q at HNX e2 e3 b1 b2;generalize putDoc S d l=res at e1 e2 e3 ⊢;have E:=hid (And.intro e1 (And.intro e2 e3));have HB12:=hid (And.intro b1 b2);have HNX:=hid HNX;have HLEN:=hid (And.intro hlen (And.intro hd (And.intro hC hnl)));clear e1 e2 e3 b1 b2 h h1 hr hlen hd hC hb1 hs1 hblk hnl;by_cases g1:n<1
 · have k1:decide ((n:Int)<1)=true:=decide_eq_true (by omega);obtain rfl:=E.out.1 (.inl g1);have HE:=hid (And.intro HV1.out HT1.out);clear E HB12 HNX g1;go_enter func102,ntmps102;go_wp2_with fail;rw[<-hw1];go_ret2;exact⟨rfl,HE.out⟩
 have k1:decide ((n:Int)<1)=false:=decide_eq_false (by omega);by_cases g2:n>6
 · have k2:decide ((n:Int)>6)=true:=decide_eq_true (by omega);obtain rfl:=E.out.1 (.inr g2);have HE:=hid (And.intro HV1.out HT1.out);clear E HB12 HNX g1 g2;go_enter func102,ntmps102;go_wp2_with fail;rw[<-hw1];go_ret2;exact⟨rfl,HE.out⟩
 have k2:decide ((n:Int)>6)=false:=decide_eq_false (by omega);have hn6:¬(n<1∨n>6):=by omega
 have E2:=hid (E.out.2.1 hn6);have E3:=hid (E.out.2.2 hn6);clear E hn6 g1;go_enter func102,ntmps102;go_wp2_with fail;rw[<-hw1];clear hw1;refine HNX.out.mono ?_;rintro e w2⟨rfl,h2,t2⟩;by_cases hq:(nextE q).2=0
 · obtain⟨hq1,hq2,hq3⟩:=HB12.out.2 hq;rw[hq1];obtain rfl:=E3.out hq;have hs2:w1.heap.size<=w2.heap.size:=t2.size;have hblk2:w2.heap[w.heap.size]?=some (.cells #[.int .i64 d.i,.int .i64 d.k,.int .i64 d.y,.int .i64 d.f,.int .i64 d.n] 44 (0,0)):=(t2.block _ (by have:=HBK.out.2;omega) (by omega)).trans HBK.out.1;have hr2:=(Zic HR1.out (Nat.le_refl _) (ZmZ HV1.out) t2).more hs2;obtain⟨w3,hw3⟩:∃w3,w3=w2.alloc (.cells #[.pointer (some ⟨v,0,none⟩)] 96 (0,0)):=⟨_,rfl⟩
   have hb3:Below w2.heap.size w2 w3:=by rw[hw3];exact(Below.refl _ _).alloc (Nat.le_refl _) _
   have hs3:w3.heap.size=w2.heap.size+1:=by rw[hw3];simp
   have hf3:w3.heap[w2.heap.size]?=some (.cells #[.pointer (some ⟨v,0,none⟩)] 96 (0,0)):=by rw[hw3];exact heap_alloc_new w2 _
   have h3:=h2.below hb3;have hr3:=(hr2.below hb3).more hb3.size;have HT3:=hid ((HT1.out.trans t2).trans (Za.of_below (F:=fun k=>k=c) hb3));have hcl:c<w2.heap.size:=h2.lt c h2.xc
   have HST:=hid (show ∀W,Za (fun k=>k=c) w3 W->W.heap[w2.heap.size]?=some (.cells #[.pointer (some ⟨v,0,none⟩)] 96 (0,0))/\W.heap[w.heap.size]?=some (.cells #[.int .i64 d.i,.int .i64 d.k,.int .i64 d.y,.int .i64 d.f,.int .i64 d.n] 44 (0,0))/\DlE.R W w3.heap.size A n l/\Za (fun k=>k=c) w W from fun W hW=>
    ⟨(hW.block _ (by omega) (by omega)).trans hf3,(hW.block w.heap.size (by have:=HBK.out.2;omega) (by omega)).trans ((hb3.block _ (by have:=HBK.out.2;omega)).trans hblk2),Zic hr3 (Nat.le_refl _) (ZmZ h3) hW,HT3.out.trans hW⟩)
   have HV3:=hid h3;have HQ:=hid (And.intro hq2 (And.intro hq3 (show -9223372036854775808<=q+1/\q+1<=9223372036854775807 by omega)));have HC3:=hid (And.intro hcl hs3);have k0:((0:Int) != 0)=false:=rfl;clear h2 t2 hr2 hb3 hs3 hf3 h3 hr3 hs2 hblk2 HNX HB12 E2 E3 HT1 HV1 HR1 HBK hq hq1 hcl HT3;obtain⟨i,hi⟩:∃i,i=q+1:=⟨_,rfl⟩
   rw[<-hi]at HQ ⊢;have HI:=hid hi;clear hi;go_wp2_with fail;rw[<-hw3];clear hw3
   go_loopw[36] (fun iv wr=>∃j:Nat,j<=n/\iv=.int .i64 j/\Hid (Ze wr X v m c (putLs (S.next 2) i 0 (l.take j))/\Za (fun k=>k=c) w3 wr)) (fun iv _=>n-(intOf iv).toNat)
   case atStart=>exact⟨0,Nat.zero_le _,rfl,hid ⟨by rw[List.take_zero];exact HV3.out,Za.refl _ _⟩⟩
   case round=>
    clear HV3;obtain⟨j,hj,rfl,HJ⟩:=hrel;by_cases hlt:j<n
    · have hlt':(j:Int)<(n:Int):=by omega
      obtain⟨hvw,htw⟩:=HJ.out;obtain⟨hf,_,hrw,_⟩:=HST.out wr htw;obtain⟨x,hx⟩:∃x,l[j]?=some x:=⟨_,List.getElem?_eq_getElem (by rw[HLEN.out.1];exact hlt)⟩
      have hxok:=hrw.ok x (List.mem_of_getElem? hx);obtain⟨b,off,rfl,hb,c0,c1,c2,c3⟩:=ZlF hrw hx;have hps:=Zf1 (S.next 2) i hx;have hlp:=ZeU i (l.take j) (S.next 2) 0;obtain⟨wb,hwb⟩:∃wb,wb=wr.alloc (.cells #[.int .i64 x.nd,.int .i64 x.o,.int .i64 x.l,.int .i64 x.c] 50 (0,0)):=⟨_,rfl⟩
      have hbb:Below wr.heap.size wr wb:=by rw[hwb];exact(Below.refl _ _).alloc (Nat.le_refl _) _
      have hblk:wb.heap[wr.heap.size]?=some (.cells #[.int .i64 x.nd,.int .i64 x.o,.int .i64 x.l,.int .i64 x.c] 50 (0,0)):=by rw[hwb];exact heap_alloc_new wr _
      have hsz:wb.heap.size=wr.heap.size+1:=by rw[hwb];simp
      have hfl:w2.heap.size<wr.heap.size:=(Array.getElem?_eq_some_iff.1 hf).1;have hcr:c<wr.heap.size:=hvw.lt c hvw.xc
      have H1:=hid (show ∀W,Za (fun k=>k=c) wb W->W.cell? ⟨w2.heap.size,0,none⟩=some (.pointer (some ⟨v,0,none⟩))/\W.cell? ⟨wr.heap.size,0,none⟩=some (.int .i64 x.nd)/\W.cell? ⟨wr.heap.size,1,none⟩=some (.int .i64 x.o)/\W.cell? ⟨wr.heap.size,2,none⟩=some (.int .i64 x.l)/\W.cell? ⟨wr.heap.size,3,none⟩=some (.int .i64 x.c)from fun W hW=>by
       have hcw2:=HC3.out.1;have f1:=(hW.block w2.heap.size (by omega) (by omega)).trans ((hbb.block _ hfl).trans hf);have f2:=(hW.block wr.heap.size (by omega) (by omega)).trans hblk
       exact⟨cell_of_row W _ 0 _ _ (0,0) f1,Zu f2⟩)
      have HVB:=hid (show ∀W,Below wb.heap.size wb W->Ze W X v m c (putLs (S.next 2) i 0 (l.take j))from fun W hW=>hvw.below (hbb.trans (hW.mono hbb.size)))
      have hin:ZbL [x.nd,x.o,x.l,x.c,i,(j:Int)]:=by
       intro z hz;simp only[List.mem_cons,List.not_mem_nil,or_false]at hz;rcases hz with rfl|rfl|rfl|rfl|rfl|rfl
       · exact hxok _ (by simp)
       · exact hxok _ (by simp)
       · exact hxok _ (by simp)
       · exact hxok _ (by simp)
       · exact HQ.out.2.2
       · omega
      have HDL:=hid (fun W=>ZcY i (j:Int) x.nd x.o x.l x.c W hin)
      have hC2:(putLs (S.next 2) i 0 (l.take j)).C.length<maxLen:=by
       rw[List.length_take]at hlp;have h1:min j l.length<=j:=Nat.min_le_left _ _;have h2:=HLEN.out.2.2.1;have h3:=HLEN.out.2.2.2;unfold maxLen;omega
      have HNEXT:=hid (show ∀W,Ze W X v m c ((putLs (S.next 2) i 0 (l.take j)).putL i j x)->Za (fun k=>k=c) wb W->Ze W X v m c (putLs (S.next 2) i 0 (l.take (j+1)))/\Za (fun k=>k=c) w3 W from fun W hV hT=>⟨by rw[hps];exact hV,(htw.trans (Za.of_below hbb)).trans hT⟩);clear hvw htw hf hrw hx hxok hps hlp hbb hblk hsz hfl hcr hin HJ hb;go_wp2_with fail;rw[<-hwb];clear hwb c0 c1 c2 c3;have c5:=H1.out _ (Za.of_below ((Below.refl wb.heap.size wb).drew))
      go_region_held3 (fun W=>W.cell? ⟨w2.heap.size,0,none⟩=some (.pointer (some ⟨v,0,none⟩))/\W.cell? ⟨wr.heap.size,0,none⟩=some (.int .i64 x.nd)/\W.cell? ⟨wr.heap.size,1,none⟩=some (.int .i64 x.o)/\W.cell? ⟨wr.heap.size,2,none⟩=some (.int .i64 x.l)/\W.cell? ⟨wr.heap.size,3,none⟩=some (.int .i64 x.c))
       (first|with_reducible exact c5|exact c5)
       (first
        | (go_at_call 192;refine Calls.mono (HDL.out _) ?_;rintro e wk hp;obtain⟨kA,kc,vA,vc,rfl,h2,hbk⟩:=hp.gets (nk:=9) (nv:=32) (by omega) (by simp) rfl rfl;have hbk:=((Below.refl wb.heap.size wb).drew).trans hbk;have c5:=H1.out _ (Za.of_below hbk);have hst:=Zf2 (HVB.out _ hbk) i (j:Int) x h2 hC2)
        | (go_at_call 191;refine Calls.mono hst ?_;rintro e wq ⟨rfl,hvq,htq⟩;have htq:=(Za.of_below hbk).trans htq;have c5:=H1.out _ htq))
      have HJ:=hid (HNEXT.out wq hvq htq);clear c5 hvq htq hst hbk h2 hp H1 HVB HDL HNEXT;go_wp2_with fail;go_roundw
      case rel=>exact⟨j+1,by omega,by go_num,HJ⟩
      case measure=>simp[intOf];omega
    · obtain rfl:j=n:=by omega
      obtain⟨hvw,htw⟩:=HJ.out;rw[show l.take j=l by rw[<-HLEN.out.1,List.take_length]]at hvw;obtain⟨hf,hdb,_,htt⟩:=HST.out wr htw;have d1:wr.cell? ⟨w.heap.size,1,none⟩=some (.int .i64 d.k):=by rw[cell_of_row wr _ 1 _ _ (0,0) hdb];rfl
      have d2:wr.cell? ⟨w.heap.size,2,none⟩=some (.int .i64 d.y):=by rw[cell_of_row wr _ 2 _ _ (0,0) hdb];rfl
      have d3:wr.cell? ⟨w.heap.size,3,none⟩=some (.int .i64 d.f):=by rw[cell_of_row wr _ 3 _ _ (0,0) hdb];rfl
      have hlp:=ZeU i l (S.next 2) 0;obtain⟨wb,hwb⟩:∃wb,wb=wr.alloc (.cells #[.int .i64 i,.int .i64 d.k,.int .i64 d.y,.int .i64 d.f,.int .i64 (j:Int)] 44 (0,0)):=⟨_,rfl⟩
      have hbb:Below wr.heap.size wr wb:=by rw[hwb];exact(Below.refl _ _).alloc (Nat.le_refl _) _
      have hblk:wb.heap[wr.heap.size]?=some (.cells #[.int .i64 i,.int .i64 d.k,.int .i64 d.y,.int .i64 d.f,.int .i64 (j:Int)] 44 (0,0)):=by rw[hwb];exact heap_alloc_new wr _
      have hsz:wb.heap.size=wr.heap.size+1:=by rw[hwb];simp
      have hfl:w2.heap.size<wr.heap.size:=(Array.getElem?_eq_some_iff.1 hf).1;have hcr:c<wr.heap.size:=hvw.lt c hvw.xc
      have H1:=hid (show ∀W,Za (fun k=>k=c) wb W->W.cell? ⟨w2.heap.size,0,none⟩=some (.pointer (some ⟨v,0,none⟩))/\W.cell? ⟨wr.heap.size,0,none⟩=some (.int .i64 i)/\W.cell? ⟨wr.heap.size,1,none⟩=some (.int .i64 d.k)/\W.cell? ⟨wr.heap.size,2,none⟩=some (.int .i64 d.y)/\W.cell? ⟨wr.heap.size,3,none⟩=some (.int .i64 d.f)/\W.cell? ⟨wr.heap.size,4,none⟩=some (.int .i64 (j:Int))from fun W hW=>by
       have hcw2:=HC3.out.1;have f1:=(hW.block w2.heap.size (by omega) (by omega)).trans ((hbb.block _ hfl).trans hf);have f2:=(hW.block wr.heap.size (by omega) (by omega)).trans hblk
       exact⟨cell_of_row W _ 0 _ _ (0,0) f1,ZK f2⟩)
      have HVB:=hid (show ∀W,Below wb.heap.size wb W->Ze W X v m c (putLs (S.next 2) i 0 l)from fun W hW=>hvw.below (hbb.trans (hW.mono hbb.size)))
      have hin:ZbL [i,d.k,d.y,d.f,(j:Int)]:=by
       intro z hz;have hdok:=HLEN.out.2.1;simp only[List.mem_cons,List.not_mem_nil,or_false]at hz;rcases hz with rfl|rfl|rfl|rfl|rfl
       · exact HQ.out.2.2
       · exact hdok _ (by simp)
       · exact hdok _ (by simp)
       · exact hdok _ (by simp)
       · omega
      have HDL:=hid (fun W=>Zmk i d.k d.y d.f (j:Int) W hin)
      have hC2:(putLs (S.next 2) i 0 l).C.length<maxLen:=by
       have h1:=HLEN.out.1;have h2:=HLEN.out.2.2.1;have h3:=HLEN.out.2.2.2;unfold maxLen;omega
      have HTT:=hid (htt.trans (Za.of_below (F:=fun k=>k=c) hbb));clear hvw htw hf hdb htt hlp hbb hblk hsz hfl hcr hin HJ HST;go_wp2_with fail;rw[<-hwb];clear hwb d1 d2 d3;have c5:=H1.out _ (Za.of_below ((Below.refl wb.heap.size wb).drew))
      go_region_held3 (fun W=>W.cell? ⟨w2.heap.size,0,none⟩=some (.pointer (some ⟨v,0,none⟩))/\W.cell? ⟨wr.heap.size,0,none⟩=some (.int .i64 i)/\W.cell? ⟨wr.heap.size,1,none⟩=some (.int .i64 d.k)/\W.cell? ⟨wr.heap.size,2,none⟩=some (.int .i64 d.y)/\W.cell? ⟨wr.heap.size,3,none⟩=some (.int .i64 d.f)/\W.cell? ⟨wr.heap.size,4,none⟩=some (.int .i64 (j:Int)))
       (first|with_reducible exact c5|exact c5)
       (first
        | (go_at_call 193;refine Calls.mono (HDL.out _) ?_;rintro e wk hp;obtain⟨kA,kc,vA,vc,rfl,h2,hbk⟩:=hp.gets (nk:=5) (nv:=32) (by omega) (by simp) rfl rfl;have hbk:=((Below.refl wb.heap.size wb).drew).trans hbk;have c5:=H1.out _ (Za.of_below hbk);have hst:=Zm0 (HVB.out _ hbk) ⟨i,d.k,d.y,d.f,(j:Int)⟩ h2 hC2)
        | (go_at_call 191;refine Calls.mono hst ?_;rintro e wq ⟨rfl,hvq,htq⟩;have htq:=(Za.of_below hbk).trans htq;have c5:=H1.out _ htq))
      have HE:=hid (And.intro hvq (HTT.out.trans htq));clear c5 hvq htq hst hbk h2 hp H1 HVB HDL HTT;go_wp2_with fail;go_ret2;exact⟨congrArg (fun z=>Ending.returned (Value.tuple #[.int .i64 z,.int .i64 0])) HI.out,by rw[<-HI.out];exact HE.out⟩
 · have hb:=HB12.out.1 hq;rw[hb.2];have hE2:=E2.out hq;subst hE2;rw[hb.1]at h2;have k9:((9:Int) != 0)=true:=rfl;have HE:=hid (And.intro h2 (HT1.out.trans t2));clear hb h2 t2 HNX HB12 E2 E3 hq;go_wp2_with fail;go_ret2;exact⟨rfl,HE.out⟩
end
theorem ZN{fn:Func}{p u1 u2:Tmp}{ty:TypeId}{P:Program}{w:World}(h:fn.results = #[.cell p ty,.tmp u1,.tmp u2])(tmps:Array Value)(g:Nat)(cs:Array Value)
 (hp:tmps.getD p undef=.pointer (some ⟨g,0,none⟩)) (hr:(loadVar ty ⟨g,0,none⟩).run P w=.ok (.agg cs) w) :
 (results fn tmps).run P w=.ok (.tuple #[.agg cs,tmps.getD u1 undef,tmps.getD u2 undef]) w:=by
 have e:(results fn tmps).run P w=((asAddr (tmps.getD p undef)).run P w).andThen fun a w₁=>((loadVar ty a).run P w₁).andThen fun v w₂=>.ok (.tuple #[v,tmps.getD u1 undef,tmps.getD u2 undef]) w₂:=by
  simp only[results,h];simp[Sem.run_bind,Result.andThen]
 rw[e,hp];simp[asAddr,hr,Result.andThen]
def Zet:Option (Dc×List Dl)->List Dl
 | some p=>p.2
 | none=>[]
def Zf3(w w':World)(r:Ending)(o:Option (Dc×List Dl)):Prop:=
 ∃A k,r=.returned (.tuple #[dcW (o.map fun p=>p.1),.slice A (Zet o).length k,.bool o.isSome])/\DlE.Own 50 w' w.heap.size (.slice A (Zet o).length k) (Zet o)/\(∀x∈Zet o,ZaE x)/\(∀p,o=some p->ZmW p.1)/\Below w.heap.size w w'
theorem Zeu{w0 w:World}{g:Nat}{T:TypeId}{zs:Array Value}(hz:w.heap[g]?=some (.cells zs T (0,0)))(hs:zs.size=5)(hb:Below w0.heap.size w0 w)(hg:w0.heap.size<=g)(x:Dc) :
 (((((w.setCell ⟨g,0,none⟩ (.int .i64 x.i)).setCell ⟨g,1,none⟩ (.int .i64 x.k)).setCell ⟨g,2,none⟩ (.int .i64 x.y)).setCell ⟨g,3,none⟩ (.int .i64 x.f)).setCell ⟨g,4,none⟩ (.int .i64 x.n)).heap[g]?=some (.cells (dcV x).toArray T (0,0))/\Below w0.heap.size w0 (((((w.setCell ⟨g,0,none⟩ (.int .i64 x.i)).setCell ⟨g,1,none⟩ (.int .i64 x.k)).setCell ⟨g,2,none⟩ (.int .i64 x.y)).setCell ⟨g,3,none⟩ (.int .i64 x.f)).setCell ⟨g,4,none⟩ (.int .i64 x.n)):=by
 obtain⟨l⟩:=zs
 match l,hs with
 | [z0,z1,z2,z3,z4],_=>
  exact⟨Zfz hz,Zd (Zd (Zd (Zd (Zd hb hg 0 _) hg 1 _) hg 2 _) hg 3 _) hg 4 _⟩
theorem Zr{w:World}{g:Nat}{T:TypeId}{cs:Array Value}(h:w.heap[g]?=some (.cells cs T (0,0))):∀o,w.frozen? ⟨g,o,none⟩=false:=fun o=>by simp[World.frozen?,h]
theorem ZeW{S:VS}{i:Int}(h:ZaQ i=true)(hd:docAt S i=none):docGet S i=none:=by
 unfold docGet;rw[if_pos h,hd]
theorem Zf4{S:VS}{i:Int}(h:ZaQ i=true){d:Dc}(hd:docAt S i=some d)(hn:Zcj d=false):docGet S i=none:=by
 unfold docGet;rw[if_pos h,hd];exact if_neg (by rw[hn];decide)
theorem Zid{S:VS}{i:Int}(h:ZaQ i=true){d:Dc}(hd:docAt S i=some d)(hn:Zcj d=true):docGet S i=(ZM S i d.n.toNat).map fun l=>(d,l):=by
 unfold docGet;rw[if_pos h,hd];exact if_pos hn
theorem Zee{S:VS}{i:Int}{j N:Nat}{L:List Dl}(hj:j<N)(h:ZM S i j=some L)(hn:lineAt S i j=none):ZM S i N=none:=
 Zec (n:=j+1) hj (by unfold ZM;rw[h];simp only[hn])
theorem Zef{S:VS}{i:Int}{j:Nat}{L:List Dl}{x:Dl}(h:ZM S i j=some L)(hn:lineAt S i j=some x):ZM S i (j+1)=some (L++[x]):=by
 unfold ZM;rw[h];simp only[hn]
section
variable{w w':World}{X:Nat->Prop}{v m c:Nat}{S:VS}
theorem Zc4(h:Ze w X v m c S)(i:Int)(hi : -9223372036854775808<=i/\i<=9223372036854775807) :
 Calls prog 16 #[.pointer (some ⟨v,0,none⟩),.int .i64 i] w fun e w'=>Zf3 w w' e (docGet S i):=by
 have hEND:∀W,Below w.heap.size w W->(W.heap[w.heap.size]?=some (.cells (dcV Zbt).toArray 44 (0,0)))->docGet S i=none->Zf3 w W (.returned (.tuple #[.agg #[.int .i64 0,.int .i64 0,.int .i64 0,.int .i64 0,.int .i64 0],.slice none 0 0,.bool false])) (docGet S i):=fun W hW _ hn=>by
  rw[hn];exact⟨none,0,rfl,Enc.Own.start _ _ _,(fun x hx=>by cases hx),(fun p hp=>by cases hp),hW⟩
 by_cases hh:ZaQ i=true
 · have hh':=(Zaa _).1 hh;have k1:decide (i<0)=false:=decide_eq_false (by omega);have k2:decide (i>4294967295)=false:=decide_eq_false (by omega);obtain⟨w1,hw1⟩:∃w1,w1=w.alloc (.cells #[.int .i64 0,.int .i64 0,.int .i64 0,.int .i64 0,.int .i64 0] 44):=⟨_,rfl⟩
   have hb1:Below w.heap.size w w1:=by rw[hw1];exact(Below.refl _ _).alloc (Nat.le_refl _) _
   have hs1:w1.heap.size=w.heap.size+1:=by rw[hw1];simp
   have g1:w1.heap[w.heap.size]?=some (.cells #[.int .i64 0,.int .i64 0,.int .i64 0,.int .i64 0,.int .i64 0] 44 (0,0)):=by rw[hw1];exact heap_alloc_new w _
   obtain⟨w2,hw2⟩:∃w2,w2=w1.alloc (.cells #[.pointer (some ⟨v,0,none⟩)] 96 (0,0)):=⟨_,rfl⟩
   have hb2:Below w1.heap.size w1 w2:=by rw[hw2];exact(Below.refl _ _).alloc (Nat.le_refl _) _
   have hs2:w2.heap.size=w.heap.size+2:=by rw[hw2];simp[hs1]
   have g2:w2.heap[w.heap.size+1]?=some (.cells #[.pointer (some ⟨v,0,none⟩)] 96 (0,0)):=by rw[hw2,<-hs1];exact heap_alloc_new w1 _
   obtain⟨w3,hw3⟩:∃w3,w3=w2.alloc (.cells #[.int .i64 i] 3):=⟨_,rfl⟩
   have hb3:Below w2.heap.size w2 w3:=by rw[hw3];exact(Below.refl _ _).alloc (Nat.le_refl _) _
   have hb02:=hb1.trans (hb2.mono hb1.size);have hb03:=hb02.trans (hb3.mono hb02.size);have hrow:ZR w3 (w.heap.size+2) [i]:=by rw[hw3,<-hs2];exact ZR.a' (l:=[i]) w2 3
   have HC:=hid (show ∀W,Below w3.heap.size w3 W->W.heap[w.heap.size]?=some (.cells #[.int .i64 0,.int .i64 0,.int .i64 0,.int .i64 0,.int .i64 0] 44 (0,0))/\W.heap[w.heap.size+1]?=some (.cells #[.pointer (some ⟨v,0,none⟩)] 96 (0,0))/\Below w.heap.size w W/\Ze W X v m c S from fun W hW=>
    have hW2:=hb3.trans (hW.mono hb3.size)
    ⟨(hW2.block _ (by omega)).trans ((hb2.block _ (by omega)).trans g1),(hW2.block _ (by omega)).trans g2,hb03.trans (hW.mono hb03.size),h.below (hb03.trans (hW.mono hb03.size))⟩)
   have HP:=hid (Zed (h.below hb03) 68 [i] 1 5 (by omega) (fun z hz=>by obtain rfl:=List.mem_singleton.1 hz;exact hi) rfl (by omega) rfl (w.heap.size+2) hrow);have HI:=hid (And.intro hi (And.intro hh hs1));have HEND:=hid hEND;have f2:w2.cell? ⟨w.heap.size+1,0,none⟩=some (.pointer (some ⟨v,0,none⟩)):=by rw[cell_of_row w2 _ 0 _ _ (0,0) g2];rfl
   have HF:=hid f2;clear h hi hb1 hb2 hb3 hb02 hb03 g1 g2 hrow hh hh' hEND f2;have hs1':=hs1;rw[hw1]at hw2;rw[hw2]at hw3;clear hw2 hs1 hs2 hs1' hw1;go_enter func16,ntmps16;go_wp2_with fail;rw[<-hw3];clear hw3 HF;refine HP.out.mono ?_;rintro e w4⟨A,k,Au,nu,ku,rfl,hk,hrk,hku,hnu,hru,hb4⟩;have HDO:=Zi8 A 5 k Au nu ku (Zi 68 [i],(S.now (tx (Zi 68 [i]))).getD []) _ w4 hrk hru (Nat.le_refl _) hk hku (by decide) (Nat.le_trans hnu (by unfold maxLen;omega));rw[ZpM,ZkX]at HDO;have hdok:=fun d (q:docAt S i=some d)=>ZpN (Z3 (by omega) _) hru.bytes q
   have hDA:dcK (Zi 68 [i],(S.now (tx (Zi 68 [i]))).getD [])=docAt S i:=rfl;rw[hDA]at HDO;have HDO:=hid HDO;have HDK:=hid hdok;have HB4:=hid hb4;have E0:=hid (fun(q:docAt S i=none)=>ZeW HI.out.2.1 q);have E1:=hid (fun(d:Dc) (q:docAt S i=some d) (z:Zcj d=false)=>Zf4 HI.out.2.1 q z);have E2:=hid (fun(d:Dc) (q:docAt S i=some d) (z:Zcj d=true)=>Zid HI.out.2.1 q z);generalize docAt S i=o at HDO HDK E0 E1 E2;clear hrk hru hb4 hdok hDA HP hk hku hnu;go_wp2_with fail;refine HDO.out.mono ?_;rintro e w5⟨rfl,hb5⟩;have HB5:=hid (HB4.out.trans (hb5.mono HB4.out.size));clear hb5 HDO HB4;cases o with
   | none=>
    have hn:=E0.out rfl;have hb6:Below w5.heap.size w5 (w5.alloc (.cells #[.int .i64 0,.int .i64 0,.int .i64 0,.int .i64 0,.int .i64 0] 44 (0,0))):=(Below.refl _ _).alloc (Nat.le_refl _) _;obtain⟨w6,hw6⟩:∃w6,w6=w5.alloc (.cells #[.int .i64 0,.int .i64 0,.int .i64 0,.int .i64 0,.int .i64 0] 44 (0,0)):=⟨_,rfl⟩
    rw[<-hw6]at hb6;obtain⟨q1,_,q3,_⟩:=HC.out w6 (HB5.out.trans (hb6.mono HB5.out.size));obtain⟨r1,r2⟩:=Zeu q1 rfl q3 (Nat.le_refl _) Zbt;have HG:=hid r1;have HE:=hid (HEND.out _ r2 r1 hn);obtain⟨z0,z1,z2,z3,z4⟩:=ZK q1;have f0:=Zr q1 0;have f1:=Zr q1 1;have f2:=Zr q1 2;have f3:=Zr q1 3;have f4:=Zr q1 4;simp only[dcW,Option.getD_none,Zbt,Option.isSome_none];clear hn hb6 q1 q3 r1 r2 E0 E1 E2 HDK;rw[hw6]at z0 z1 z2 z3 z4 f0 f1 f2 f3 f4;go_wp2_with fail
    try rw[<-hw6]
    refine bodyPost_ret (ZN rfl _ w.heap.size _ rfl (run_loadVar_row _ _ _ _ _ (0,0) _ HG.out underlying44 rfl Z6)) rfl ?_
    first|exact HE.out|(rw[<-hw6];exact HE.out)
   | some d=>
    obtain⟨di,dk,dy,df,dn⟩:=d;have hdok:=HDK.out _ rfl;obtain⟨w6,hw6⟩:∃w6,w6=w5.alloc (.cells #[.int .i64 di,.int .i64 dk,.int .i64 dy,.int .i64 df,.int .i64 dn] 44 (0,0)):=⟨_,rfl⟩
    have hb6:Below w5.heap.size w5 w6:=by rw[hw6];exact(Below.refl _ _).alloc (Nat.le_refl _) _
    have hs6:w6.heap.size=w5.heap.size+1:=by rw[hw6];simp
    have g6:w6.heap[w5.heap.size]?=some (.cells #[.int .i64 di,.int .i64 dk,.int .i64 dy,.int .i64 df,.int .i64 dn] 44 (0,0)):=by rw[hw6];exact heap_alloc_new w5 _
    have HB6:=hid (HB5.out.trans (hb6.mono HB5.out.size));have HC6:=hid (show ∀W,Below w6.heap.size w6 W->W.heap[w5.heap.size]?=some (.cells #[.int .i64 di,.int .i64 dk,.int .i64 dy,.int .i64 df,.int .i64 dn] 44 (0,0))from fun W hW=>(hW.block _ (by omega)).trans g6);have HS6:=hid hs6;clear hb6 hs6 g6 HB5;simp only[dcW,Option.getD_some,Option.isSome_some];by_cases g1:dn<1
    · have k3:decide (dn<1)=true:=decide_eq_true g1;have hn:=E1.out _ rfl (by unfold Zcj;simp only[Bool.and_eq_false_iff,decide_eq_false_iff_not];omega);obtain⟨q1,_,q3,_⟩:=HC.out w6 (HB6.out);obtain⟨r1,r2⟩:=Zeu q1 rfl q3 (Nat.le_refl _) Zbt;have HG:=hid r1;have HE:=hid (HEND.out _ r2 r1 hn);obtain⟨z0,z1,z2,z3,z4⟩:=ZK q1;have f0:=Zr q1 0;have f1:=Zr q1 1;have f2:=Zr q1 2;have f3:=Zr q1 3;have f4:=Zr q1 4;clear hn q1 q3 r1 r2 E0 E1 E2 HDK hdok g1;rw[hw6]at z0 z1 z2 z3 z4 f0 f1 f2 f3 f4;go_wp2_with fail;rw[<-hw6];refine bodyPost_ret (ZN rfl _ w.heap.size _ rfl (run_loadVar_row _ _ _ _ _ (0,0) _ HG.out underlying44 rfl Z6)) rfl ?_;exact HE.out
    have k3:decide (dn<1)=false:=decide_eq_false g1;by_cases g2:dn>6
    · have k4:decide (dn>6)=true:=decide_eq_true g2;have hn:=E1.out _ rfl (by unfold Zcj;simp only[Bool.and_eq_false_iff,decide_eq_false_iff_not];omega);obtain⟨q1,_,q3,_⟩:=HC.out w6 (HB6.out);obtain⟨r1,r2⟩:=Zeu q1 rfl q3 (Nat.le_refl _) Zbt;have HG:=hid r1;have HE:=hid (HEND.out _ r2 r1 hn);obtain⟨z0,z1,z2,z3,z4⟩:=ZK q1;have f0:=Zr q1 0;have f1:=Zr q1 1;have f2:=Zr q1 2;have f3:=Zr q1 3;have f4:=Zr q1 4;clear hn q1 q3 r1 r2 E0 E1 E2 HDK hdok g1 g2;rw[hw6]at z0 z1 z2 z3 z4 f0 f1 f2 f3 f4;go_wp2_with fail;rw[<-hw6];refine bodyPost_ret (ZN rfl _ w.heap.size _ rfl (run_loadVar_row _ _ _ _ _ (0,0) _ HG.out underlying44 rfl Z6)) rfl ?_;exact HE.out
    have k4:decide (dn>6)=false:=decide_eq_false g2;obtain⟨N,rfl⟩:∃N:Nat,dn=(N:Int):=⟨dn.toNat,by omega⟩
    have hd:=E2.out _ rfl (by unfold Zcj;simp only[Bool.and_eq_true,decide_eq_true_eq];omega);have hN6:N<=6:=by omega
    have HD:=hid (show docGet S i=(ZM S i N).map fun l=>((⟨di,dk,dy,df,(N:Int)⟩:Dc),l)from hd);have HDOK:=hid hdok;clear hd E0 E1 E2 HDK hdok g1 g2;go_wp2_with fail;rw[<-hw6];clear hw6
    go_loopw[10,46] (fun u iv wr=>∃(j:Nat) (L:List Dl) (A:Option Addr) (k:Nat),j<=N/\iv=.int .i64 j/\u=.slice A L.length k/\Hid (DlE.Own 50 wr w6.heap.size (.slice A L.length k) L/\(∀x∈L,ZaE x)/\ZM S i j=some L/\Below w6.heap.size w6 wr)) (fun _ iv _=>N-(intOf iv).toNat)
    case atStart=>exact⟨0,[],none,0,Nat.zero_le _,rfl,rfl,hid ⟨Enc.Own.start _ _ _,(fun x hx=>by cases hx),rfl,Below.refl _ _⟩⟩
    case round=>
     obtain⟨j,L,A,k,hj,rfl,rfl,HJ⟩:=hrel;by_cases hlt:j<N
     · have hlt':(j:Int)<(N:Int):=by omega
       obtain⟨hown,hLok,hla,hbw⟩:=HJ.out;have hb6w:Below w3.heap.size w3 wr:=HB6.out.trans (hbw.mono HB6.out.size);obtain⟨_,q2,_,hvw⟩:=HC.out wr hb6w;have c0:wr.cell? ⟨w.heap.size+1,0,none⟩=some (.pointer (some ⟨v,0,none⟩)):=by rw[cell_of_row wr _ 0 _ _ (0,0) q2];rfl
       have hba:Below wr.heap.size wr (wr.alloc (.cells #[.int .i64 i,.int .i64 (j:Int)] 3)):=(Below.refl _ _).alloc (Nat.le_refl _) _
       have HPL:=hid (Zed (hvw.below hba) 76 [i,(j:Int)] 2 9 (by omega) (fun z hz=>by
        simp only[List.mem_cons,List.not_mem_nil,or_false]at hz;rcases hz with rfl|rfl
        · exact HI.out.1
        · omega) rfl (by omega) rfl wr.heap.size (ZR.a' (l:=[i,(j:Int)]) wr 3))
       have HBA:=hid hba;have HOW:=hid (And.intro hown (And.intro hLok hla));have HBW:=hid hbw;have hLl:=ZaK hla;have HLL:=hid hLl;clear hown hLok hla hbw hb6w q2 hvw hba HJ hLl;go_wp2_with fail;refine HPL.out.mono ?_;rintro e w7⟨A7,k7,Au,nu,ku,rfl,hk7,hrk,hku,hnu,hru,hb7⟩;have HDO:=ZeA A7 9 k7 Au nu ku (Zi 76 [i,(j:Int)],(S.now (tx (Zi 76 [i,(j:Int)]))).getD []) _ w7 hrk hru (Nat.le_refl _) hk7 hku (by decide) (Nat.le_trans hnu (by unfold maxLen;omega));rw[ZfY,ZkY]at HDO;have hlok:=fun d (q:lineAt S i j=some d)=>ZmX (Z3 (by omega) _) hru.bytes q
       have hLA:dlK (Zi 76 [i,(j:Int)],(S.now (tx (Zi 76 [i,(j:Int)]))).getD [])=lineAt S i j:=rfl;rw[hLA]at HDO;have HDO:=hid HDO;have HLK:=hid hlok;have HB7:=hid (HBA.out.trans (hb7.mono HBA.out.size));have F0:=hid (fun(q:lineAt S i j=none)=>Zee hlt HOW.out.2.2 q);have F1:=hid (fun(x:Dl) (q:lineAt S i j=some x)=>Zef HOW.out.2.2 q);generalize lineAt S i j=o at HDO HLK F0 F1;clear hrk hru hb7 hlok hLA HPL hk7 hku hnu c0;go_wp2_with fail;refine HDO.out.mono ?_;rintro e w8⟨rfl,hb8⟩;have HB8:=hid (HB7.out.trans (hb8.mono HB7.out.size));clear hb8 HDO HB7;cases o with
       | none=>
        have hn:docGet S i=none:=by rw[HD.out,F0.out rfl];rfl
        obtain⟨w9,hw9⟩:∃w9,w9=w8.alloc (.cells #[.int .i64 0,.int .i64 0,.int .i64 0,.int .i64 0] 50 (0,0)):=⟨_,rfl⟩
        have hb9:Below w8.heap.size w8 w9:=by rw[hw9];exact(Below.refl _ _).alloc (Nat.le_refl _) _
        have hall:=HB6.out.trans ((HBW.out.trans ((HB8.out.trans (hb9.mono HB8.out.size)).mono HBW.out.size)).mono HB6.out.size);obtain⟨q1,_,q3,_⟩:=HC.out w9 (hall);obtain⟨r1,r2⟩:=Zeu q1 rfl q3 (Nat.le_refl _) Zbt;have HG:=hid r1;have HE:=hid (HEND.out _ r2 r1 hn);obtain⟨z0,z1,z2,z3,z4⟩:=ZK q1;have f0:=Zr q1 0;have f1:=Zr q1 1;have f2:=Zr q1 2;have f3:=Zr q1 3;have f4:=Zr q1 4;simp only[dlW,Option.getD_none,Zav,Option.isSome_none];clear hn hb9 hall q1 q3 r1 r2 F0 F1 HLK;rw[hw9]at z0 z1 z2 z3 z4 f0 f1 f2 f3 f4;go_wp2_with fail;rw[<-hw9]
        try rw[Exit.noGoto_ret]
        refine bodyPost_ret (ZN rfl _ w.heap.size _ rfl (run_loadVar_row _ _ _ _ _ (0,0) _ HG.out underlying44 rfl Z6)) rfl ?_;exact HE.out
       | some x=>
        have hxok:=HLK.out x rfl;have hmore:=F1.out x rfl;obtain⟨x0,x1,x2,x3⟩:=x;obtain⟨wx,hwx⟩:∃wx,wx=w8.alloc (.cells #[.int .i64 x0,.int .i64 x1,.int .i64 x2,.int .i64 x3] 50 (0,0)):=⟨_,rfl⟩
        have hX:Below w8.heap.size w8 wx:=by rw[hwx];exact(Below.refl _ _).alloc (Nat.le_refl _) _
        have hblk:wx.heap[w8.heap.size]?=some (.cells #[.int .i64 x0,.int .i64 x1,.int .i64 x2,.int .i64 x3] 50 (0,0)):=by rw[hwx];exact heap_alloc_new w8 _
        have hsz:wx.heap.size=w8.heap.size+1:=by rw[hwx];simp
        obtain⟨r0,r1,r2,r3⟩:=Zu hblk;have hY:Below wx.heap.size wx (wx.alloc (.cells #[.int .i64 x0,.int .i64 x1,.int .i64 x2,.int .i64 x3] 50 (0,0))):=(Below.refl _ _).alloc (Nat.le_refl _) _;have hXY:=HB8.out.trans ((hX.trans (hY.mono hX.size)).mono HB8.out.size);obtain⟨v',w9,hrun,hown9,hb9,hg,hgr⟩:=(HOW.out.1.below hXY).append1 DlT (x:=⟨x0,x1,x2,x3⟩) (heap_alloc_new wx _) rfl hxok (by have:=HLL.out;omega) (Nat.le_trans HBW.out.size hXY.size) 45;rw[hsz]at hrun;obtain⟨A9,k9,rfl,hk9⟩:=hown9.shape;have hlen9:(L++[(⟨x0,x1,x2,x3⟩:Dl)]).length=L.length+1:=by rw[List.length_append];rfl
        have HNEW:=hid (show DlE.Own 50 w9 w6.heap.size (.slice A9 (L++[(⟨x0,x1,x2,x3⟩:Dl)]).length k9) (L++[⟨x0,x1,x2,x3⟩])/\(∀x∈L++[(⟨x0,x1,x2,x3⟩:Dl)],ZaE x)/\ZM S i (j+1)=some (L++[⟨x0,x1,x2,x3⟩])/\Below w6.heap.size w6 w9 from
         ⟨hown9,fun x hx=>by
          rcases List.mem_append.1 hx with hx|hx
          · exact HOW.out.2.1 x hx
          · obtain rfl:=List.mem_singleton.1 hx
            exact hxok,hmore,(HBW.out.trans (hXY.mono HBW.out.size)).trans hb9⟩)
        rw[hlen9]at hrun;have HRUN:=hid hrun;have HLEN9:=hid hlen9;subst hwx;clear hxok hmore hX hblk hsz hY hXY hrun hown9 hb9 hg hgr hk9 hlen9 F0 F1 HLK HOW;simp only[dlW,Option.getD_some,Option.isSome_some]
        go_wp2_with (at_builtin;refine Lib.wpList_append_run _ rfl _ _ _ _ rfl _ _ rfl rfl _ _ HRUN.out ?_)
        go_roundw
        case rel=>exact⟨j+1,_,A9,k9,by omega,by go_num,by rw[HLEN9.out],HNEW⟩
        case measure=>simp[intOf];omega
     · obtain rfl:j=N:=by omega
       obtain⟨hown,hLok,hla,hbw⟩:=HJ.out;obtain⟨q1,_,q3,_⟩:=HC.out wr (HB6.out.trans (hbw.mono HB6.out.size));have q6:=HC6.out wr hbw;obtain⟨r1,r2⟩:=Zeu q1 rfl q3 (Nat.le_refl _) ⟨di,dk,dy,df,(j:Int)⟩;have HG:=hid r1;have hle:w.heap.size<w6.heap.size:=(Array.getElem?_eq_some_iff.1 (HC.out w6 HB6.out).1).1
       have HE:=hid (show Zf3 w (((((wr.setCell ⟨w.heap.size,0,none⟩ (.int .i64 di)).setCell ⟨w.heap.size,1,none⟩ (.int .i64 dk)).setCell ⟨w.heap.size,2,none⟩ (.int .i64 dy)).setCell ⟨w.heap.size,3,none⟩ (.int .i64 df)).setCell ⟨w.heap.size,4,none⟩ (.int .i64 (j:Int))) (.returned (.tuple #[.agg #[.int .i64 di,.int .i64 dk,.int .i64 dy,.int .i64 df,.int .i64 (j:Int)],.slice A L.length k,.bool true])) (docGet S i)from by
        rw[HD.out,hla]
        exact⟨A,k,rfl,(hown.stays fun g hg=>by
         have hgl:=(hown.at_ g hg).1
         rw[heap_setCell_other _ _ _ _ (show g≠w.heap.size by omega),heap_setCell_other _ _ _ _ (show g≠w.heap.size by omega),heap_setCell_other _ _ _ _ (show g≠w.heap.size by omega),heap_setCell_other _ _ _ _ (show g≠w.heap.size by omega),heap_setCell_other _ _ _ _ (show g≠w.heap.size by omega)]).base_le (by omega),hLok,(fun p hp=>by cases hp;exact HDOK.out),r2⟩)
       obtain⟨z0,z1,z2,z3,z4⟩:=ZK q1;obtain⟨y0,y1,y2,y3,y4⟩:=ZK q6;have f0:=Zr q1 0;have f1:=Zr q1 1;have f2:=Zr q1 2;have f3:=Zr q1 3;have f4:=Zr q1 4;clear hown hLok hla hbw q1 q3 q6 r1 r2 HJ;go_wp2_with fail;refine bodyPost_ret (ZN rfl _ w.heap.size _ rfl (run_loadVar_row _ _ _ _ _ (0,0) _ HG.out underlying44 rfl Z6)) rfl ?_;exact HE.out
 · have hn:docGet S i=none:=by unfold docGet;rw[if_neg hh]
   have hx:¬(0<=i/\i<4294967296):=fun q=>hh ((Zaa _).2 q)
   have hb1:Below w.heap.size w (w.alloc (.cells #[.int .i64 0,.int .i64 0,.int .i64 0,.int .i64 0,.int .i64 0] 44)):=(Below.refl _ _).alloc (Nat.le_refl _) _;have HE:=hid (hEND _ hb1 (heap_alloc_new w _) hn);have HG:=hid (heap_alloc_new w (.cells #[.int .i64 0,.int .i64 0,.int .i64 0,.int .i64 0,.int .i64 0] 44));clear h hEND hn hb1 hh;by_cases g1:i<0
   · have k1:decide (i<0)=true:=decide_eq_true g1;go_enter func16,ntmps16;go_wp2_with fail;refine bodyPost_ret (ZN rfl _ w.heap.size _ rfl (run_loadVar_row _ _ _ _ _ (0,0) _ HG.out underlying44 rfl Z6)) rfl ?_;exact HE.out
   · have k1:decide (i<0)=false:=decide_eq_false g1;have k2:decide (i>4294967295)=true:=decide_eq_true (by omega);go_enter func16,ntmps16;go_wp2_with fail;refine bodyPost_ret (ZN rfl _ w.heap.size _ rfl (run_loadVar_row _ _ _ _ _ (0,0) _ HG.out underlying44 rfl Z6)) rfl ?_;exact HE.out
end
section
variable{w w':World}{X:Nat->Prop}{v m c:Nat}{S:VS}
theorem ZeX(h:Ze w X v m c S)(i j:Int)(x:Dl)(hx:ZaE x)(hi : -9223372036854775808<=i/\i<=9223372036854775807)(hj : -9223372036854775808<=j/\j<=9223372036854775807)(hC:S.C.length<=1000000) :
 Calls prog 165 #[.pointer (some ⟨v,0,none⟩),.int .i64 i,.int .i64 j,.agg #[.int .i64 x.nd,.int .i64 x.o,.int .i64 x.l,.int .i64 x.c]] w fun e w'=>e=.returned (.int .i64 (setLine S i j x).1)/\Ze w' X v m c (setLine S i j x).2/\Za (fun k=>k=c) w w':=by
 obtain⟨w1,hw1⟩:∃w1,w1=w.alloc (.cells #[.int .i64 x.nd,.int .i64 x.o,.int .i64 x.l,.int .i64 x.c] 50):=⟨_,rfl⟩
 have hb1:Below w.heap.size w w1:=by rw[hw1];exact(Below.refl _ _).alloc (Nat.le_refl _) _
 have hs1:w1.heap.size=w.heap.size+1:=by rw[hw1];simp
 have hblk:w1.heap[w.heap.size]?=some (.cells #[.int .i64 x.nd,.int .i64 x.o,.int .i64 x.l,.int .i64 x.c] 50 (0,0)):=by rw[hw1];exact heap_alloc_new w _
 have HG:=hid (Zc4 (h.below hb1) i hi)
 have e1:¬(0<=j/\j<((Zet (docGet S i)).length:Int))->setLine S i j x=(7,S):=fun q=>by
  unfold setLine
  cases hd:docGet S i with
  | none=>rfl
  | some p=>rw[hd]at q;exact if_neg q
 have e2:(0<=j/\j<((Zet (docGet S i)).length:Int))->setLine S i j x=(0,S.putL i j x):=fun q=>by
  unfold setLine
  cases hd:docGet S i with
  | none=>rw[hd]at q;have:((Zet none).length:Int)=0:=rfl;omega
  | some p=>rw[hd]at q;exact if_pos q
 have hl6:(Zet (docGet S i)).length<=6:=by
  unfold docGet;split
  · split
    · exact Nat.zero_le _
    · split
      · rename_i d _ hd
        cases hq:ZM S i d.n.toNat with
        | none=>exact Nat.zero_le _
        | some l=>
         have:=ZaK hq
         unfold Zcj at hd;simp only[Bool.and_eq_true,decide_eq_true_eq]at hd;show l.length<=6;omega
      · exact Nat.zero_le _
  · exact Nat.zero_le _
 have HV:=hid (show ∀W,Below w.heap.size w W->Ze W X v m c S from fun W hW=>h.below hW);have H1:=hid (show ∀W,Below w1.heap.size w1 W->W.cell? ⟨w.heap.size,0,none⟩=some (.int .i64 x.nd)/\W.cell? ⟨w.heap.size,1,none⟩=some (.int .i64 x.o)/\W.cell? ⟨w.heap.size,2,none⟩=some (.int .i64 x.l)/\W.cell? ⟨w.heap.size,3,none⟩=some (.int .i64 x.c)from fun W hW=>Zu ((hW.block _ (by omega)).trans hblk));have HB:=hid hb1
 have hin:ZbL [x.nd,x.o,x.l,x.c,i,j]:=by
  intro z hz;simp only[List.mem_cons,List.not_mem_nil,or_false]at hz;rcases hz with rfl|rfl|rfl|rfl|rfl|rfl
  · exact hx _ (by simp)
  · exact hx _ (by simp)
  · exact hx _ (by simp)
  · exact hx _ (by simp)
  · exact hi
  · exact hj
 have HDL:=hid (fun W=>ZcY i j x.nd x.o x.l x.c W hin);have HCC:=hid (show S.C.length<maxLen from Nat.lt_of_le_of_lt hC (by decide));have E:=hid (And.intro e1 e2);generalize setLine S i j x=res at E ⊢;generalize docGet S i=o at HG E hl6;clear h hs1 hblk hb1 e1 e2 hin hx hi hC;go_enter func165,ntmps165;go_wp2_with fail;rw[<-hw1];clear hw1;refine HG.out.mono ?_;rintro e w2⟨A,k,rfl,hown,_,_,hb2⟩;unfold dcW;generalize (o.map fun p=>p.1).getD Zbt=D;generalize (Zet o).length=n at E hl6 hown ⊢;generalize o.isSome=bb;obtain⟨w3,hw3⟩:∃w3,w3=w2.alloc (.cells #[.int .i64 D.i,.int .i64 D.k,.int .i64 D.y,.int .i64 D.f,.int .i64 D.n] 44 (0,0)):=⟨_,rfl⟩
 have hb3:Below w2.heap.size w2 w3:=by rw[hw3];exact(Below.refl _ _).alloc (Nat.le_refl _) _
 have hb13:=hb2.trans (hb3.mono hb2.size);have HT:=hid (And.intro (HV.out w3 (HB.out.trans (hb13.mono HB.out.size))) (Za.of_below (F:=fun k=>k=c) (HB.out.trans (hb13.mono HB.out.size))));obtain⟨c0,c1,c2,c3⟩:=H1.out w3 hb13;have HB13:=hid hb13;rw[hw3]at c0 c1 c2 c3;clear hown hb2 hb3 hb13 HG;by_cases g1:j<0
 · have k1:decide (j<0)=true:=decide_eq_true g1;obtain rfl:=E.out.1 (by omega);clear E g1;go_wp2_with fail;go_ret;exact⟨rfl,by rw[<-hw3];exact HT.out⟩
 have k1:decide (j<0)=false:=decide_eq_false g1;by_cases g2:(n:Int)<=j
 · have k2:decide ((n:Int)<=j)=true:=decide_eq_true g2;obtain rfl:=E.out.1 (by omega);clear E g1 g2;go_wp2_with fail;go_ret;exact⟨rfl,by rw[<-hw3];exact HT.out⟩
 have k2:decide ((n:Int)<=j)=false:=decide_eq_false g2;obtain rfl:=E.out.2 (by omega);clear E g1 g2;go_wp2_with fail;rw[<-hw3];clear hw3 c0 c1 c2 c3;refine(HDL.out _).mono ?_;rintro e w4 hp;obtain⟨kA,kc,vA,vc,rfl,h4,hb4⟩:=hp.gets (nk:=9) (nv:=32) (by omega) (by simp) rfl rfl;have HS:=hid (Zf2 (HT.out.1.below hb4) i j x h4 HCC.out);have HTT:=hid (HT.out.2.trans (Za.of_below (F:=fun k=>k=c) hb4));clear hp h4 hb4 HT HDL HV H1 HB13;go_wp2_with fail;refine HS.out.mono ?_;rintro e w5⟨rfl,h5,t5⟩;have HE:=hid (And.intro h5 (HTT.out.trans t5));clear h5 t5 HS HTT;go_wp2_with fail;go_ret;exact⟨rfl,HE.out⟩
theorem ZoK:dcW none=.agg #[.int .i64 0,.int .i64 0,.int .i64 0,.int .i64 0,.int .i64 0]:=rfl
end
end Go.Proofs.YtiknkbpojmgbhaaGreat
