/- TreA, TreB, NodD, TreC. Conditions: in each theorem. -/
import Derived.Test.YtiknkbpojmgbhaaGreatViewC
import Derived.Test.YtiknkbpojmgbhaaGreatTreP
import Derived.Deep.RegionHeld3
import Derived.Test.YtiknkbpojmgbhaaGreatViewN
import Derived.Test.YtiknkbpojmgbhaaGreatManS
import Derived.Lib.AppendZeros
import Derived.StillTailTactics
import Derived.WalkMore
set_option maxHeartbeats 6400000
set_option maxRecDepth 100000
set_option linter.unusedVariables false
open Go.Proofs.Tryz
open Go.Lib (hid)
namespace Go.Proofs.YtiknkbpojmgbhaaGreat
open Go.RowKit Go.Maps
theorem ZeC:(0:Int)<=78/\(78:Int)<256:=by omega
theorem Zjm(n:Int)(w:World):Calls prog 103 #[.int .i64 n] w fun e w'=>e=.returned (.bool (Zbn n))/\w=w':=by
 unfold Zbn;by_cases h1:0<=n
 · have k1:decide (0<=n)=true:=decide_eq_true h1;rw[k1,Bool.true_and];go_enter func103,ntmps103;go_wp2_with fail;go_ret;exact⟨rfl,rfl⟩
 · have k1:decide (0<=n)=false:=decide_eq_false h1;rw[k1,Bool.false_and];go_enter func103,ntmps103;go_wp2_with fail;go_ret;exact⟨rfl,rfl⟩
abbrev ZS(n:Int):Prop:=-9223372036854775808<=n/\n<=9223372036854775807
theorem Zpz(x:Nd)(w:World):Calls prog 15 #[.agg #[.int .i64 x.y,.int .i64 x.i,.int .i64 x.p,.int .i64 x.f,.int .i64 x.o,.bool x.ab,.int .i64 x.li,.int .i64 x.pr,.int .i64 x.en,.int .i64 x.ex,.int .i64 x.la,.int .i64 x.ca]] w fun e w'=>e=.returned (.int .i64 (usedN x))/\Below w.heap.size w w':=by
 have hb:Below w.heap.size w (w.alloc (.cells #[.int .i64 x.y,.int .i64 x.i,.int .i64 x.p,.int .i64 x.f,.int .i64 x.o,.bool x.ab,.int .i64 x.li,.int .i64 x.pr,.int .i64 x.en,.int .i64 x.ex,.int .i64 x.la,.int .i64 x.ca] 40)):=(Below.refl _ _).alloc (Nat.le_refl _) _;have HB:=hid hb;unfold usedN;obtain⟨y,i,p,f,o,ab,li,pr,en,ex,la,ca⟩:=x;simp only at HB ⊢;clear hb;go_enter func15,ntmps15;go_wp2_with fail;go_ret;exact⟨rfl,HB.out⟩
section
variable{w w':World}{X:Nat->Prop}{v m c:Nat}{S:VS}
theorem ZfC(x:Nd):putE (Zms x) (ZhO x)=0:=by
 unfold putE;rw[if_neg];unfold Zms ZhO;rw[Zc0,Zh];simp
theorem Zoc(S:VS)(x:Nd):S.putR (Zms x) (ZhO x)=S.putN x:=by
 unfold VS.putR;rw[if_pos (ZfC x)];rfl
theorem ZfQ(v:Nat)(y:Int)(W:World):(Instr.field 89 (.agg #[.pointer (some ⟨v,0,none⟩),.int .i64 y]) 0).run prog W=.ok (.pointer (some ⟨v,0,none⟩)) W:=by kernel_rfl
theorem ZfD(h:Ze w X v m c S)(x:Nd)(hx:ZbR x)(hC:S.C.length<maxLen) :
 Calls prog 45 #[.pointer (some ⟨v,0,none⟩),.agg #[.int .i64 x.y,.int .i64 x.i,.int .i64 x.p,.int .i64 x.f,.int .i64 x.o,.bool x.ab,.int .i64 x.li,.int .i64 x.pr,.int .i64 x.en,.int .i64 x.ex,.int .i64 x.la,.int .i64 x.ca]] w fun e w'=>e=.returned (.int .i64 0)/\Ze w' X v m c (S.putN x)/\Za (fun k=>k=c) w w':=by
 obtain⟨w1,hw1⟩:∃w1,w1=w.alloc (.cells #[.int .i64 x.y,.int .i64 x.i,.int .i64 x.p,.int .i64 x.f,.int .i64 x.o,.bool x.ab,.int .i64 x.li,.int .i64 x.pr,.int .i64 x.en,.int .i64 x.ex,.int .i64 x.la,.int .i64 x.ca] 40):=⟨_,rfl⟩
 have hb1:Below w.heap.size w w1:=by rw[hw1];exact(Below.refl _ _).alloc (Nat.le_refl _) _
 have HN:=hid (Zkt x.y x.i x.p x.f x.o x.ab x.li x.pr x.en x.ex x.la x.ca w1 hx);have HB:=hid hb1;have c0:w1.cell? ⟨w.heap.size,0,none⟩=some (.int .i64 x.y):=by rw[hw1];exact cell_of_row _ _ 0 _ _ (0,0) (heap_alloc_new w _)
 have hlt:w.heap.size<w1.heap.size:=by rw[hw1];simp
 have HC:=hid (show ∀W,Below w1.heap.size w1 W->W.cell? ⟨w.heap.size,0,none⟩=some (.int .i64 x.y)from fun W hW=>(hW.cell (p:=⟨w.heap.size,0,none⟩) hlt).trans c0);have HV:=hid (show ∀W,Below w1.heap.size w1 W->Ze W X v m c S from fun W hW=>h.below (hb1.trans (hW.mono hb1.size)));have HCC:=hid hC;clear h hb1 c0 hlt hC;go_enter func45,ntmps45;go_wp2_with fail;rw[<-hw1];clear hw1;refine HN.out.mono ?_;rintro e w2 hp;obtain⟨kA,kc,vA,vc,rfl,h2,hb2⟩:=hp.gets (nk:=9) (nv:=80) (by omega) (by simp) rfl rfl;obtain⟨w3,hw3⟩:∃w3,w3=w2.alloc (.cells #[.slice kA 9 kc,.slice vA 80 vc] 101):=⟨_,rfl⟩
 have hb3:Below w2.heap.size w2 w3:=by rw[hw3];exact(Below.refl _ _).alloc (Nat.le_refl _) _
 have hp3:w3.heap[w2.heap.size]?=some (.cells #[.slice kA 9 kc,.slice vA 80 vc] 101 (0,0)):=by rw[hw3];exact heap_alloc_new w2 _
 have b13:=hb2.trans (hb3.mono hb2.size);have c0:=HC.out w3 b13;have p0:=ZA hp3;have p1:=ZB hp3;have HP:=hid (ZcU (k:=kc) (k':=vc) (HV.out w3 b13) (h2.k.below hb3) hb3.size (by decide) (h2.v.below hb3) hb3.size (by decide) HCC.out);rw[show putE (Zi 78 [x.y,x.i]) (Zj 8 [x.p,x.f,x.o,Zoy x.ab,x.li,x.pr,x.en,x.ex,x.la,x.ca])=0 from ZfC x,show S.putR (Zi 78 [x.y,x.i]) (Zj 8 [x.p,x.f,x.o,Zoy x.ab,x.li,x.pr,x.en,x.ex,x.la,x.ca])=S.putN x from Zoc S x]at HP;have HT:=hid (Za.of_below (F:=fun k=>k=c) (HB.out.trans (b13.mono HB.out.size)));clear HN hp hb2 hb3 hp3 b13 h2 HC HV;have hfl:=ZfQ v x.y w3;rw[hw3]at c0 p0 p1 hfl;go_wp2_with fail;rw[<-hw3];clear hw3;refine HP.out.mono ?_;rintro e w4⟨rfl,h4,t4⟩;have HE:=hid (And.intro h4 (HT.out.trans t4));clear h4 t4 HP c0 p0 p1;go_wp2_with fail;go_ret;exact⟨rfl,HE.out⟩
theorem ZaB{l:List Int}(h:∀x∈l,-9223372036854775808<=x/\x<=9223372036854775807)(k:Nat):ZS (l[k]?.getD 0):=by
 rcases Nat.lt_or_ge k l.length with hk|hk
 · rw[List.getElem?_eq_getElem hk];exact h _ (List.getElem_mem hk)
 · rw[List.getElem?_eq_none hk];exact⟨by decide,by decide⟩
theorem Zod{x:KV}(hk:Zm x.1)(hv:Zm x.2){l:Nd}(h:ndK x=some l):ZbR l:=by
 unfold ndK numsR at h
 split at h
 · have h:=Option.some.inj (show some (ZqR _)=some l from h);subst h
   have a1:∀z∈(splitK x.1).1,-9223372036854775808<=z/\z<=9223372036854775807:=fun z hz=>by
    unfold splitK Zco at hz
    split at hz
    · exact Z1 4 x.1 _ _ hk z hz
    · cases hz
   have a2:∀z∈(unpackR x.2 (10:Nat)).1,-9223372036854775808<=z/\z<=9223372036854775807:=fun z hz=>by
    unfold unpackR at hz
    split at hz
    · split at hz
      · exact Z1 8 x.2 _ _ hv z hz
      · cases hz
    · cases hz
   intro z hz;simp only[ZqR,List.mem_cons,List.not_mem_nil,or_false]at hz;rcases hz with rfl|rfl|rfl|rfl|rfl|rfl|rfl|rfl|rfl|rfl|rfl
   · exact ZaB a1 0
   · exact ZaB a1 1
   · exact ZaB a2 0
   · exact ZaB a2 1
   · exact ZaB a2 2
   · exact ZaB a2 4
   · exact ZaB a2 5
   · exact ZaB a2 6
   · exact ZaB a2 7
   · exact ZaB a2 8
   · exact ZaB a2 9
 · cases h
def Zjn(o:Option Nd):Prop:=∀n,o=some n->ZbR n
def ndW(o:Option Nd):Value:=.agg #[.int .i64 (ndO o).y,.int .i64 (ndO o).i,.int .i64 (ndO o).p,.int .i64 (ndO o).f,.int .i64 (ndO o).o,.bool (ndO o).ab,.int .i64 (ndO o).li,.int .i64 (ndO o).pr,.int .i64 (ndO o).en,.int .i64 (ndO o).ex,.int .i64 (ndO o).la,.int .i64 (ndO o).ca]
theorem Zd0(x:KV):Zqj (numsR x 78 2 10)=ndW (ndK x):=by
 unfold ndK;cases numsR x 78 2 10 with
 | none=>rfl
 | some r=>rfl
theorem ZhN{w0 w:World}{g:Nat}{T:TypeId}{zs:Array Value}(hz:w.heap[g]?=some (.cells zs T (0,0)))(hs:zs.size=12)(hb:Below w0.heap.size w0 w)(hg:w0.heap.size<=g)(x:Nd) :
 ((((((((((((w.setCell ⟨g,0,none⟩ (.int .i64 x.y)).setCell ⟨g,1,none⟩ (.int .i64 x.i)).setCell ⟨g,2,none⟩ (.int .i64 x.p)).setCell ⟨g,3,none⟩ (.int .i64 x.f)).setCell ⟨g,4,none⟩ (.int .i64 x.o)).setCell ⟨g,5,none⟩ (.bool x.ab)).setCell ⟨g,6,none⟩ (.int .i64 x.li)).setCell ⟨g,7,none⟩ (.int .i64 x.pr)).setCell ⟨g,8,none⟩ (.int .i64 x.en)).setCell ⟨g,9,none⟩ (.int .i64 x.ex)).setCell ⟨g,10,none⟩ (.int .i64 x.la)).setCell ⟨g,11,none⟩ (.int .i64 x.ca)).heap[g]?=some (.cells (ndV x).toArray T (0,0))/\Below w0.heap.size w0 ((((((((((((w.setCell ⟨g,0,none⟩ (.int .i64 x.y)).setCell ⟨g,1,none⟩ (.int .i64 x.i)).setCell ⟨g,2,none⟩ (.int .i64 x.p)).setCell ⟨g,3,none⟩ (.int .i64 x.f)).setCell ⟨g,4,none⟩ (.int .i64 x.o)).setCell ⟨g,5,none⟩ (.bool x.ab)).setCell ⟨g,6,none⟩ (.int .i64 x.li)).setCell ⟨g,7,none⟩ (.int .i64 x.pr)).setCell ⟨g,8,none⟩ (.int .i64 x.en)).setCell ⟨g,9,none⟩ (.int .i64 x.ex)).setCell ⟨g,10,none⟩ (.int .i64 x.la)).setCell ⟨g,11,none⟩ (.int .i64 x.ca)):=by
 obtain⟨l⟩:=zs
 match l,hs with
 | [z0,z1,z2,z3,z4,z5,z6,z7,z8,z9,z10,z11],_=>
  exact⟨ZdB hz,(Zd (Zd (Zd (Zd (Zd (Zd (Zd (Zd (Zd (Zd (Zd (Zd hb hg 0 (.int .i64 x.y)) hg 1 (.int .i64 x.i)) hg 2 (.int .i64 x.p)) hg 3 (.int .i64 x.f)) hg 4 (.int .i64 x.o)) hg 5 (.bool x.ab)) hg 6 (.int .i64 x.li)) hg 7 (.int .i64 x.pr)) hg 8 (.int .i64 x.en)) hg 9 (.int .i64 x.ex)) hg 10 (.int .i64 x.la)) hg 11 (.int .i64 x.ca))⟩
theorem Zg{w:World}{g:Nat}{T:TypeId}{cs:Array Value}(h:w.heap[g]?=some (.cells cs T (0,0))):∀o,w.frozen? ⟨g,o,none⟩=false:=fun o=>by simp[World.frozen?,h]
theorem Zer(h:Ze w X v m c S)(y i:Int)(hy:ZS y)(hi:ZS i) :
 Calls prog 88 #[.agg #[.pointer (some ⟨v,0,none⟩),.int .i64 y],.int .i64 i] w fun e w'=>e=.returned (.tuple #[ndW (nodeAt S y i),.bool (nodeAt S y i).isSome])/\Zjn (nodeAt S y i)/\Below w.heap.size w w':=by
 obtain⟨w1,hw1⟩:∃w1,w1=w.alloc (.cells #[.pointer (some ⟨v,0,none⟩),.int .i64 y] 89):=⟨_,rfl⟩
 have hb1:Below w.heap.size w w1:=by rw[hw1];exact(Below.refl _ _).alloc (Nat.le_refl _) _
 have hs1:w1.heap.size=w.heap.size+1:=by rw[hw1];simp
 have c0:w1.cell? ⟨w.heap.size,0,none⟩=some (.pointer (some ⟨v,0,none⟩)):=by rw[hw1];exact cell_of_row _ _ 0 _ _ (0,0) (heap_alloc_new w _)
 have c1:w1.cell? ⟨w.heap.size,1,none⟩=some (.int .i64 y):=by rw[hw1];exact cell_of_row _ _ 1 _ _ (0,0) (heap_alloc_new w _)
 obtain⟨w2,hw2⟩:∃w2,w2=w1.alloc (.cells #[.int .i64 0,.int .i64 0,.int .i64 0,.int .i64 0,.int .i64 0,.bool false,.int .i64 0,.int .i64 0,.int .i64 0,.int .i64 0,.int .i64 0,.int .i64 0] 40):=⟨_,rfl⟩
 have hb2:Below w1.heap.size w1 w2:=by rw[hw2];exact(Below.refl _ _).alloc (Nat.le_refl _) _
 have hz2:w2.heap[w.heap.size+1]?=some (.cells #[.int .i64 0,.int .i64 0,.int .i64 0,.int .i64 0,.int .i64 0,.bool false,.int .i64 0,.int .i64 0,.int .i64 0,.int .i64 0,.int .i64 0,.int .i64 0] 40 (0,0)):=by rw[hw2,<-hs1];exact heap_alloc_new w1 _
 have hs2:w2.heap.size=w.heap.size+2:=by rw[hw2];show(w1.alloc _).heap.size=_;simp[hs1]
 have hb02:=hb1.trans (hb2.mono hb1.size)
 have HC:=hid (show ∀W,Below w2.heap.size w2 W->W.cell? ⟨w.heap.size,0,none⟩=some (.pointer (some ⟨v,0,none⟩))/\W.cell? ⟨w.heap.size,1,none⟩=some (.int .i64 y)/\W.heap[w.heap.size+1]?=some (.cells #[.int .i64 0,.int .i64 0,.int .i64 0,.int .i64 0,.int .i64 0,.bool false,.int .i64 0,.int .i64 0,.int .i64 0,.int .i64 0,.int .i64 0,.int .i64 0] 40 (0,0))from fun W hW=>
  ⟨((hb2.trans (hW.mono hb2.size)).cell (p:=⟨w.heap.size,0,none⟩) (by show w.heap.size<w1.heap.size;omega)).trans c0,((hb2.trans (hW.mono hb2.size)).cell (p:=⟨w.heap.size,1,none⟩) (by show w.heap.size<w1.heap.size;omega)).trans c1,(hW.block _ (by omega)).trans hz2⟩)
 have HB:=hid hb02;have HV:=hid (show ∀W,Below w2.heap.size w2 W->Ze W X v m c S from fun W hW=>h.below (hb02.trans (hW.mono hb02.size)));have H1:=Zjm y;have H2:=Zjm i;obtain⟨d0,d1,dz⟩:=HC.out w2 (Below.refl _ _)
 have HK:=hid (Zep 78 [y,i] 2 9 ZeC (fun z hz=>by
  simp only[List.mem_cons,List.not_mem_nil,or_false]at hz;rcases hz with rfl|rfl
  · exact hy
  · exact hi) rfl (by omega) rfl)
 unfold nodeAt;clear h hb1 hb2 hb02 hz2 c0 c1 hs1 hs2 hy hi
 cases e1:Zbn y with
 | false=>
  rw[e1]at H1;rw[Bool.false_and,if_neg (by decide)];obtain⟨G1,G2⟩:=ZhN dz rfl HB.out (Nat.le_succ _) Zd1;have HG:=hid G1;have HE:=hid G2;obtain⟨z0,z1,z2,z3,z4,z5,z6,z7,z8,z9,z10,z11⟩:=Zq dz;have f0:=Zg dz 0;have f1:=Zg dz 1;have f2:=Zg dz 2;have f3:=Zg dz 3;have f4:=Zg dz 4;have f5:=Zg dz 5;have f6:=Zg dz 6;have f7:=Zg dz 7;have f8:=Zg dz 8;have f9:=Zg dz 9;have f10:=Zg dz 10;have f11:=Zg dz 11;clear e1 G1 G2 dz;go_enter func88,ntmps88;go_wp2_with fail;rw[<-hw1];go_wp2_with fail;rw[<-hw2];clear hw1 hw2;refine(H1 _).mono ?_;rintro e w'⟨rfl,rfl⟩;go_wp2_with fail;refine bodyPost_ret (Zw rfl _ (w.heap.size+1) _ rfl (run_loadVar_row _ _ _ _ _ (0,0) _ HG.out underlying40 rfl Zad)) rfl ?_;exact⟨rfl,(fun n h=>by cases h),HE.out⟩
 | true=>
  rw[e1]at H1;rw[Bool.true_and]
  cases e2:Zbn i with
  | false=>
   rw[e2]at H2;rw[if_neg (by decide)];obtain⟨G1,G2⟩:=ZhN dz rfl HB.out (Nat.le_succ _) Zd1;have HG:=hid G1;have HE:=hid G2;obtain⟨z0,z1,z2,z3,z4,z5,z6,z7,z8,z9,z10,z11⟩:=Zq dz;have f0:=Zg dz 0;have f1:=Zg dz 1;have f2:=Zg dz 2;have f3:=Zg dz 3;have f4:=Zg dz 4;have f5:=Zg dz 5;have f6:=Zg dz 6;have f7:=Zg dz 7;have f8:=Zg dz 8;have f9:=Zg dz 9;have f10:=Zg dz 10;have f11:=Zg dz 11;clear e1 e2 G1 G2 dz;go_enter func88,ntmps88;go_wp2_with fail;rw[<-hw1];go_wp2_with fail;rw[<-hw2];clear hw1 hw2;refine(H1 _).mono ?_;rintro e w'⟨rfl,rfl⟩;go_wp2_with fail;refine(H2 _).mono ?_;rintro e w'⟨rfl,rfl⟩;go_wp2_with fail;refine bodyPost_ret (Zw rfl _ (w.heap.size+1) _ rfl (run_loadVar_row _ _ _ _ _ (0,0) _ HG.out underlying40 rfl Zad)) rfl ?_;exact⟨rfl,(fun n h=>by cases h),HE.out⟩
  | true=>
   rw[e2]at H2;rw[if_pos rfl];clear e1 e2;have hk1:Below w2.heap.size w2 (w2.alloc (.cells #[.int .i64 y,.int .i64 i] 3)):=(Below.refl _ _).alloc (Nat.le_refl _) _;have HK1:=hid (HK.out (w2.alloc (.cells #[.int .i64 y,.int .i64 i] 3)) w2.heap.size (ZR.a' (l:=[y,i]) w2 3));have HKB:=hid hk1;clear hk1 HK dz;go_enter func88,ntmps88;go_wp2_with fail;rw[<-hw1];go_wp2_with fail;rw[<-hw2];clear hw1 hw2;refine(H1 _).mono ?_;rintro e w'⟨rfl,rfl⟩;go_wp2_with fail;refine(H2 _).mono ?_;rintro e w'⟨rfl,rfl⟩;go_wp2_with fail;refine HK1.out.mono ?_;rintro e w3⟨A,k,rfl,ho⟩;have hb3:=HKB.out.trans (ho.2.mono HKB.out.size);obtain⟨A',k',e',hk',hr⟩:=ho.read (Zk ZeC _);injection e' with e1 e2 e3;subst e1 e3;rw[Zc0]at hr hk';have HGT:=hid (ZdE (k:=k) (HV.out w3 hb3) hr (Nat.le_refl _) (by decide));obtain⟨d0,d1,_⟩:=HC.out w3 hb3;have HR:=hid hr;have HB3:=hid hb3;clear ho hb3 hr HK1 HKB e2;go_wp2_with fail;refine HGT.out.mono ?_;rintro e w4⟨u,rfl,hs,hb4⟩;obtain⟨Au,nu,ku,rfl,hu1,hu2,hu3,_⟩:=hs;have HO:=hid (ZhD A 9 k Au nu ku (Zi 78 [y,i],(S.now (nKy y i)).getD []) _ w4 ((HR.out.below hb4).more hb4.size) hu3 (Nat.le_refl _) hk' hu1 (by decide) (Nat.le_trans hu2 (by unfold maxLen;omega)));rw[Zd0,ZcT]at HO;have HBO:=hid (show Zjn (ndK (Zi 78 [y,i],(S.now (nKy y i)).getD []))from fun n h=>Zod (Zk ZeC _) hu3.bytes h);have HB4:=hid (HB3.out.trans (hb4.mono HB3.out.size));obtain⟨o,ho⟩:∃o,o=ndK (Zi 78 [y,i],(S.now (nKy y i)).getD []):=⟨_,rfl⟩
   rw[<-ho]at HO;have HOO:=hid ho;clear ho;clear hu1 hu2 hu3 hb4 HGT HR HB3 HV d0 d1;go_wp2_with fail;refine HO.out.mono ?_;rintro e w5⟨rfl,hb5⟩;have hb25:=HB4.out.trans (hb5.mono HB4.out.size);obtain⟨_,_,dz⟩:=HC.out w5 hb25;unfold ndW;obtain⟨x,hx⟩:∃x,x=ndO o:=⟨_,rfl⟩
   rw[<-hx];have HX:=hid (show ndW o=.agg (ndV x).toArray by rw[hx];rfl);clear hx;obtain⟨G1,G2⟩:=ZhN dz rfl (HB.out.trans (hb25.mono HB.out.size)) (Nat.le_succ _) x;have HG:=hid G1;have HE:=hid G2;obtain⟨z0,z1,z2,z3,z4,z5,z6,z7,z8,z9,z10,z11⟩:=Zq dz;have f0:=Zg dz 0;have f1:=Zg dz 1;have f2:=Zg dz 2;have f3:=Zg dz 3;have f4:=Zg dz 4;have f5:=Zg dz 5;have f6:=Zg dz 6;have f7:=Zg dz 7;have f8:=Zg dz 8;have f9:=Zg dz 9;have f10:=Zg dz 10;have f11:=Zg dz 11;obtain⟨a0,a1,a2,a3,a4,a5,a6,a7,a8,a9,a10,a11⟩:=x;clear G1 G2 dz hb5 hb25 HO HB4;go_wp2_with fail;refine bodyPost_ret (Zw rfl _ (w.heap.size+1) _ rfl (run_loadVar_row _ _ _ _ _ (0,0) _ HG.out underlying40 rfl Zad)) rfl ?_;have hbo:=HBO.out;rw[<-HOO.out]at hbo ⊢;rw[HX.out];exact⟨rfl,hbo,HE.out⟩
theorem ZfE(h:Ze w X v m c S)(y i:Int)(hy:ZS y)(hi:ZS i) :
 Calls prog 40 #[.pointer (some ⟨v,0,none⟩),.int .i64 y,.int .i64 i] w fun e w'=>e=.returned (.tuple #[ndW (nodeAt S y i),.bool (nodeAt S y i).isSome])/\Zjn (nodeAt S y i)/\Below w.heap.size w w':=by
 obtain⟨w1,hw1⟩:∃w1,w1=w.alloc (.cells #[.int .i64 0,.int .i64 0,.int .i64 0,.int .i64 0,.int .i64 0,.bool false,.int .i64 0,.int .i64 0,.int .i64 0,.int .i64 0,.int .i64 0,.int .i64 0] 40):=⟨_,rfl⟩
 have hb1:Below w.heap.size w w1:=by rw[hw1];exact(Below.refl _ _).alloc (Nat.le_refl _) _
 have hz1:w1.heap[w.heap.size]?=some (.cells #[.int .i64 0,.int .i64 0,.int .i64 0,.int .i64 0,.int .i64 0,.bool false,.int .i64 0,.int .i64 0,.int .i64 0,.int .i64 0,.int .i64 0,.int .i64 0] 40 (0,0)):=by rw[hw1];exact heap_alloc_new w _
 have hs1:w1.heap.size=w.heap.size+1:=by rw[hw1];simp
 have HL:=hid (Zer (h.below hb1) y i hy hi);have HZ:=hid (show ∀W,Below w1.heap.size w1 W->W.heap[w.heap.size]?=some (.cells #[.int .i64 0,.int .i64 0,.int .i64 0,.int .i64 0,.int .i64 0,.bool false,.int .i64 0,.int .i64 0,.int .i64 0,.int .i64 0,.int .i64 0,.int .i64 0] 40 (0,0))from fun W hW=>(hW.block _ (by omega)).trans hz1);have HB:=hid hb1;generalize nodeAt S y i=o at HL ⊢;clear h hb1 hz1 hs1;go_enter func40,ntmps40;go_wp2_with fail;rw[<-hw1];clear hw1;refine HL.out.mono ?_;rintro e w5⟨rfl,hni,hb5⟩;have HNI:=hid hni;clear hni;have dz:=HZ.out w5 hb5;unfold ndW;obtain⟨x,hx⟩:∃x,x=ndO o:=⟨_,rfl⟩
 rw[<-hx];have HX:=hid (show ndW o=.agg (ndV x).toArray by rw[hx];rfl);clear hx;obtain⟨G1,G2⟩:=ZhN dz rfl (HB.out.trans (hb5.mono HB.out.size)) (Nat.le_refl _) x;have HG:=hid G1;have HE:=hid G2;obtain⟨z0,z1,z2,z3,z4,z5,z6,z7,z8,z9,z10,z11⟩:=Zq dz;have f0:=Zg dz 0;have f1:=Zg dz 1;have f2:=Zg dz 2;have f3:=Zg dz 3;have f4:=Zg dz 4;have f5:=Zg dz 5;have f6:=Zg dz 6;have f7:=Zg dz 7;have f8:=Zg dz 8;have f9:=Zg dz 9;have f10:=Zg dz 10;have f11:=Zg dz 11;obtain⟨a0,a1,a2,a3,a4,a5,a6,a7,a8,a9,a10,a11⟩:=x;clear G1 G2 dz hb5 HL HZ;go_wp2_with fail;refine bodyPost_ret (Zw rfl _ w.heap.size _ rfl (run_loadVar_row _ _ _ _ _ (0,0) _ HG.out underlying40 rfl Zad)) rfl ?_;rw[HX.out];exact⟨rfl,HNI.out,HE.out⟩
end
def ZbM(w w':World)(u:Value)(l:List Nd):Prop:=NdE.Own 40 w' w.heap.size u l/\(∀x∈l,ZbR x)/\Below w.heap.size w w'
def Zbh(w:World)(g n cap:Nat)(vs:List Value):Prop:=∃cur:Array Value,w.heap[g]?=some (.cells cur 40 (0,0))/\n<=cap/\cap<=maxLen/\cur.size=cap*12/\cur.toList.take (n*12)=vs
def NdI(vs:List Value)(a:Nat)(x:Nd):Prop:=∀k,k<12->vs[a*12+k]?=(ndV x)[k]?
section
variable{w w':World}{g n cap base:Nat}{vs:List Value}{l:List Nd}{P:Nd->Bool}
theorem Zbh.len(h:Zbh w g n cap vs):vs.length=n*12:=by
 obtain⟨cur,_,h1,_,h2,rfl⟩:=h;rw[List.length_take,Array.length_toList,h2];omega
theorem Zbh.lt(h:Zbh w g n cap vs):g<w.heap.size:=by
 obtain⟨cur,h1,_⟩:=h;exact(Array.getElem?_eq_some_iff.1 h1).1
theorem Zbh.keep(h:Zbh w g n cap vs)(e:w'.heap[g]?=w.heap[g]?):Zbh w' g n cap vs:=by
 obtain⟨cur,h1,h2⟩:=h;exact⟨cur,e.trans h1,h2⟩
theorem Zbh.cell(h:Zbh w g n cap vs){k:Nat}{u:Value}(hu:vs[k]?=some u):w.cell? ⟨g,k,none⟩=some u:=by
 have hl:=h.len;obtain⟨cur,h1,h2,h3,h4,rfl⟩:=h;have hk:=(List.getElem?_eq_some_iff.1 hu).1;rw[cell_of_row w g k cur _ (0,0) h1,<-hu,List.getElem?_take,if_pos (by omega)];simp
theorem Zbh.at_(h:Zbh w g n cap vs){a:Nat}{x:Nd}(hx:NdI vs a x):NdE.At w g (a*12) x:=fun k hk=>by
 have h1:=hx k hk;have h2:(ndV x)[k]?=some ((ndV x)[k]'hk):=List.getElem?_eq_getElem hk;rw[h2]at h1;show _=(ndV x)[k]?;rw[h2];exact h.cell h1
theorem Zbh.frozen(h:Zbh w g n cap vs)(k:Nat):w.frozen? ⟨g,k,none⟩=false:=by
 obtain⟨cur,h1,_⟩:=h;exact frozen_of_row w g k _ _ h1
def Zmq(vs:List Value)(i:Nat)(x:Nd):List Value:=((((((((((((vs.set (i*12) (.int .i64 x.y)).set (i*12+1) (.int .i64 x.i)).set (i*12+2) (.int .i64 x.p)).set (i*12+3) (.int .i64 x.f)).set (i*12+4) (.int .i64 x.o)).set (i*12+5) (.bool x.ab)).set (i*12+6) (.int .i64 x.li)).set (i*12+7) (.int .i64 x.pr)).set (i*12+8) (.int .i64 x.en)).set (i*12+9) (.int .i64 x.ex)).set (i*12+10) (.int .i64 x.la)).set (i*12+11) (.int .i64 x.ca))
theorem Zbh.set12(h:Zbh w g n cap vs){i:Nat}(hi:i<n)(x:Nd):Zbh ((((((((((((w.setCell ⟨g,i*12,none⟩ (.int .i64 x.y)).setCell ⟨g,i*12+1,none⟩ (.int .i64 x.i)).setCell ⟨g,i*12+2,none⟩ (.int .i64 x.p)).setCell ⟨g,i*12+3,none⟩ (.int .i64 x.f)).setCell ⟨g,i*12+4,none⟩ (.int .i64 x.o)).setCell ⟨g,i*12+5,none⟩ (.bool x.ab)).setCell ⟨g,i*12+6,none⟩ (.int .i64 x.li)).setCell ⟨g,i*12+7,none⟩ (.int .i64 x.pr)).setCell ⟨g,i*12+8,none⟩ (.int .i64 x.en)).setCell ⟨g,i*12+9,none⟩ (.int .i64 x.ex)).setCell ⟨g,i*12+10,none⟩ (.int .i64 x.la)).setCell ⟨g,i*12+11,none⟩ (.int .i64 x.ca)) g n cap (Zmq vs i x):=by
 obtain⟨cur,h1,h2,h3,h4,rfl⟩:=h;have e0:=heap_setCell_same _ g (i*12) _ 40 (.int .i64 x.y) h1;have e1:=heap_setCell_same _ g (i*12+1) _ 40 (.int .i64 x.i) e0;have e2:=heap_setCell_same _ g (i*12+2) _ 40 (.int .i64 x.p) e1;have e3:=heap_setCell_same _ g (i*12+3) _ 40 (.int .i64 x.f) e2;have e4:=heap_setCell_same _ g (i*12+4) _ 40 (.int .i64 x.o) e3;have e5:=heap_setCell_same _ g (i*12+5) _ 40 (.bool x.ab) e4;have e6:=heap_setCell_same _ g (i*12+6) _ 40 (.int .i64 x.li) e5;have e7:=heap_setCell_same _ g (i*12+7) _ 40 (.int .i64 x.pr) e6;have e8:=heap_setCell_same _ g (i*12+8) _ 40 (.int .i64 x.en) e7;have e9:=heap_setCell_same _ g (i*12+9) _ 40 (.int .i64 x.ex) e8;have e10:=heap_setCell_same _ g (i*12+10) _ 40 (.int .i64 x.la) e9;have e11:=heap_setCell_same _ g (i*12+11) _ 40 (.int .i64 x.ca) e10;refine⟨_,e11,h2,h3,by simpa using h4,?_⟩;unfold Zmq;simp only[Array.toList_setIfInBounds,List.take_set]
theorem ZfF{vs:List Value}{i a:Nat}{x y:Nd}(h:NdI vs a y)(ha:a≠i):NdI (Zmq vs i x) a y:=fun k hk=>by
 have q:∀j,j<12->i*12+j≠a*12+k:=fun j hj=>by omega
 have q0:i*12≠a*12+k:=by omega
 have h0:=h k hk;generalize a*12+k=z at q q0 h0 ⊢;unfold Zmq;rw[List.getElem?_set_ne (q 11 (by decide)),List.getElem?_set_ne (q 10 (by decide)),List.getElem?_set_ne (q 9 (by decide)),List.getElem?_set_ne (q 8 (by decide)),List.getElem?_set_ne (q 7 (by decide)),List.getElem?_set_ne (q 6 (by decide)),List.getElem?_set_ne (q 5 (by decide)),List.getElem?_set_ne (q 4 (by decide)),List.getElem?_set_ne (q 3 (by decide)),List.getElem?_set_ne (q 2 (by decide)),List.getElem?_set_ne (q 1 (by decide)),List.getElem?_set_ne q0];exact h0
theorem Zmr{vs:List Value}{i n:Nat}(x:Nd)(hl:vs.length=n*12)(hi:i<n):NdI (Zmq vs i x) i x:=fun k hk=>by
 have hk:k=0∨k=1∨k=2∨k=3∨k=4∨k=5∨k=6∨k=7∨k=8∨k=9∨k=10∨k=11:=by omega
 have hlen:∀j,j<12->i*12+j<vs.length:=fun j hj=>by omega
 have h0:i*12<vs.length:=by omega
 unfold Zmq;generalize i*12=z at hlen h0 ⊢;rcases hk with rfl|rfl|rfl|rfl|rfl|rfl|rfl|rfl|rfl|rfl|rfl|rfl
 · rw[List.getElem?_set_ne (by omega),List.getElem?_set_ne (by omega),List.getElem?_set_ne (by omega),List.getElem?_set_ne (by omega),List.getElem?_set_ne (by omega),List.getElem?_set_ne (by omega),List.getElem?_set_ne (by omega),List.getElem?_set_ne (by omega),List.getElem?_set_ne (by omega),List.getElem?_set_ne (by omega),List.getElem?_set_ne (by omega)];exact List.getElem?_set_self (by exact h0)
 · rw[List.getElem?_set_ne (by omega),List.getElem?_set_ne (by omega),List.getElem?_set_ne (by omega),List.getElem?_set_ne (by omega),List.getElem?_set_ne (by omega),List.getElem?_set_ne (by omega),List.getElem?_set_ne (by omega),List.getElem?_set_ne (by omega),List.getElem?_set_ne (by omega),List.getElem?_set_ne (by omega)];exact List.getElem?_set_self (by simp only[List.length_set];exact hlen 1 (by decide))
 · rw[List.getElem?_set_ne (by omega),List.getElem?_set_ne (by omega),List.getElem?_set_ne (by omega),List.getElem?_set_ne (by omega),List.getElem?_set_ne (by omega),List.getElem?_set_ne (by omega),List.getElem?_set_ne (by omega),List.getElem?_set_ne (by omega),List.getElem?_set_ne (by omega)];exact List.getElem?_set_self (by simp only[List.length_set];exact hlen 2 (by decide))
 · rw[List.getElem?_set_ne (by omega),List.getElem?_set_ne (by omega),List.getElem?_set_ne (by omega),List.getElem?_set_ne (by omega),List.getElem?_set_ne (by omega),List.getElem?_set_ne (by omega),List.getElem?_set_ne (by omega),List.getElem?_set_ne (by omega)];exact List.getElem?_set_self (by simp only[List.length_set];exact hlen 3 (by decide))
 · rw[List.getElem?_set_ne (by omega),List.getElem?_set_ne (by omega),List.getElem?_set_ne (by omega),List.getElem?_set_ne (by omega),List.getElem?_set_ne (by omega),List.getElem?_set_ne (by omega),List.getElem?_set_ne (by omega)];exact List.getElem?_set_self (by simp only[List.length_set];exact hlen 4 (by decide))
 · rw[List.getElem?_set_ne (by omega),List.getElem?_set_ne (by omega),List.getElem?_set_ne (by omega),List.getElem?_set_ne (by omega),List.getElem?_set_ne (by omega),List.getElem?_set_ne (by omega)];exact List.getElem?_set_self (by simp only[List.length_set];exact hlen 5 (by decide))
 · rw[List.getElem?_set_ne (by omega),List.getElem?_set_ne (by omega),List.getElem?_set_ne (by omega),List.getElem?_set_ne (by omega),List.getElem?_set_ne (by omega)];exact List.getElem?_set_self (by simp only[List.length_set];exact hlen 6 (by decide))
 · rw[List.getElem?_set_ne (by omega),List.getElem?_set_ne (by omega),List.getElem?_set_ne (by omega),List.getElem?_set_ne (by omega)];exact List.getElem?_set_self (by simp only[List.length_set];exact hlen 7 (by decide))
 · rw[List.getElem?_set_ne (by omega),List.getElem?_set_ne (by omega),List.getElem?_set_ne (by omega)];exact List.getElem?_set_self (by simp only[List.length_set];exact hlen 8 (by decide))
 · rw[List.getElem?_set_ne (by omega),List.getElem?_set_ne (by omega)];exact List.getElem?_set_self (by simp only[List.length_set];exact hlen 9 (by decide))
 · rw[List.getElem?_set_ne (by omega)];exact List.getElem?_set_self (by simp only[List.length_set];exact hlen 10 (by decide))
 · exact List.getElem?_set_self (by simp only[List.length_set];exact hlen 11 (by decide))
theorem ZW(w:World)(g o:Nat)(u:Value):Za (fun k=>k=g) w (w.setCell ⟨g,o,none⟩ u):=
 ⟨rfl,rfl,rfl,by simp[World.setCell],fun k _ hne=>Below.heap_setCell _ _ _ _ (by simpa using hne)⟩
theorem ZkF(w:World)(g o:Nat)(x:Nd):Za (fun k=>k=g) w ((((((((((((w.setCell ⟨g,o,none⟩ (.int .i64 x.y)).setCell ⟨g,o+1,none⟩ (.int .i64 x.i)).setCell ⟨g,o+2,none⟩ (.int .i64 x.p)).setCell ⟨g,o+3,none⟩ (.int .i64 x.f)).setCell ⟨g,o+4,none⟩ (.int .i64 x.o)).setCell ⟨g,o+5,none⟩ (.bool x.ab)).setCell ⟨g,o+6,none⟩ (.int .i64 x.li)).setCell ⟨g,o+7,none⟩ (.int .i64 x.pr)).setCell ⟨g,o+8,none⟩ (.int .i64 x.en)).setCell ⟨g,o+9,none⟩ (.int .i64 x.ex)).setCell ⟨g,o+10,none⟩ (.int .i64 x.la)).setCell ⟨g,o+11,none⟩ (.int .i64 x.ca)):=
 (((((((((((ZW _ _ _ _).trans (ZW _ _ _ _)).trans (ZW _ _ _ _)).trans (ZW _ _ _ _)).trans (ZW _ _ _ _)).trans (ZW _ _ _ _)).trans (ZW _ _ _ _)).trans (ZW _ _ _ _)).trans (ZW _ _ _ _)).trans (ZW _ _ _ _)).trans (ZW _ _ _ _)).trans (ZW _ _ _ _)
theorem Zjo{v:Value}(h:NdE.Own 40 w base (.slice (some ⟨g,0,none⟩) n cap) l):l.length=n/\base<=g/\Zbh w g n cap (NdE.all l):=by
 rcases h.2 with ⟨e,_⟩|⟨g',cap',cur,e,hb,hg,hc,hm,hs,ht⟩
 · cases e
 · cases e;exact⟨rfl,hb,cur,hg,hc,hm,hs,ht⟩
theorem Zoe(h:Zbh w g n cap vs){k:Nat}(hk:l.length=k)(hkn:k<=n)(hb:base<=g)(hvs:∀a x,l[a]?=some x->NdI vs a x):NdE.Own 40 w base (.slice (some ⟨g,0,none⟩) k cap) l:=by
 have hlen:=h.len;obtain⟨cur,h1,h2,h3,h4,rfl⟩:=h;subst hk;refine⟨Enc.all_length l,.inr ⟨g,cap,cur,rfl,hb,h1,Nat.le_trans hkn h2,h3,h4,?_⟩⟩;apply List.ext_getElem?;intro j
 show(cur.toList.take (l.length*12))[j]?=_
 rcases Nat.lt_or_ge j (l.length*12)with hj|hj
 · obtain⟨x,hx⟩:∃x,l[j/12]?=some x:=⟨_,List.getElem?_eq_getElem (by omega)⟩
   have e1:=hvs (j/12) x hx (j%12) (by omega);have e2:=Enc.all_at (E:=NdE) hx (j%12) (show j%12<12 by omega);rw[show j/12*NdE.K+j%12=j by show j/12*12+j%12=j;omega]at e2;rw[show j/12*12+j%12=j by omega]at e1;rw[e2,List.getElem?_take,if_pos hj];rw[List.getElem?_take,if_pos (by omega)]at e1;exact e1
 · rw[List.getElem?_eq_none (by rw[List.length_take];omega),List.getElem?_eq_none (by rw[Enc.all_length];exact hj)]
end
def ZeK:Value->Nat
 | .slice _ n _=>n
 | _=>0
theorem ZgG{S:VS}{y i:Int}{k:Nat}(h:nodeAt S y i=none):pathN S y (k+1) i = []:=by unfold pathN;rw[h]
theorem ZgH{S:VS}{y i:Int}{k:Nat}{n:Nd}(h:nodeAt S y i=some n)(h0:n.p=0):pathN S y (k+1) i = [n]:=by unfold pathN;rw[h];simp only[h0,if_true]
theorem ZgI{S:VS}{y i:Int}{k:Nat}{n:Nd}(h:nodeAt S y i=some n)(h0:n.p≠0):pathN S y (k+1) i=n::pathN S y k n.p:=by
 conv=>lhs;unfold pathN
 rw[h];simp only[h0,if_false]
section
variable{w w':World}{X:Nat->Prop}{v m c:Nat}{S:VS}
theorem ZfR(h:Ze w X v m c S)(y i:Int)(hy:ZS y)(hi:ZS i) :
 Calls prog 256 #[.agg #[.pointer (some ⟨v,0,none⟩),.int .i64 y],.int .i64 i] w fun e w'=>∃u,e=.returned u/\ZbM w w' u (pathN S y 8 i):=by
 obtain⟨w1,hw1⟩:∃w1,w1=w.alloc (.cells #[.pointer (some ⟨v,0,none⟩),.int .i64 y] 89):=⟨_,rfl⟩
 have hb1:Below w.heap.size w w1:=by rw[hw1];exact(Below.refl _ _).alloc (Nat.le_refl _) _
 have hs1:w1.heap.size=w.heap.size+1:=by rw[hw1];simp
 have c0:w1.cell? ⟨w.heap.size,0,none⟩=some (.pointer (some ⟨v,0,none⟩)):=by rw[hw1];exact cell_of_row _ _ 0 _ _ (0,0) (heap_alloc_new w _)
 have c1:w1.cell? ⟨w.heap.size,1,none⟩=some (.int .i64 y):=by rw[hw1];exact cell_of_row _ _ 1 _ _ (0,0) (heap_alloc_new w _)
 have HB:=hid hb1
 have HC:=hid (show ∀W,Below w1.heap.size w1 W->W.cell? ⟨w.heap.size,0,none⟩=some (.pointer (some ⟨v,0,none⟩))/\W.cell? ⟨w.heap.size,1,none⟩=some (.int .i64 y)from fun W hW=>
  ⟨(hW.cell (p:=⟨w.heap.size,0,none⟩) (by show w.heap.size<w1.heap.size;omega)).trans c0,(hW.cell (p:=⟨w.heap.size,1,none⟩) (by show w.heap.size<w1.heap.size;omega)).trans c1⟩)
 have HV:=hid (show ∀W,Below w1.heap.size w1 W->Ze W X v m c S from fun W hW=>h.below (hb1.trans (hW.mono hb1.size)));have HY:=hid hy;have HS1:=hid hs1;have HI:=hid hi;clear hb1 h hs1 c0 c1 hy hi;go_enter func256,ntmps256;go_wp2_with fail;rw[<-hw1];clear hw1
 go_step3
 go_wp2_with fail
 go_step3
 go_wp2_with fail
 go_loopw[1,5] (fun iv u wr=>∃(j:Int) (l:List Nd) (A:Option Addr) (k:Nat),iv=.int .i64 j/\u=.slice A l.length k/\l.length<=8/\Hid (NdE.Own 40 wr w1.heap.size (.slice A l.length k) l/\(∀x∈l,ZbR x)/\ZS j/\pathN S y 8 i=l++pathN S y (8-l.length) j)/\Hid (Below w1.heap.size w1 wr)) (fun _ u _=>8-ZeK u)
 case atStart=>exact⟨i,[],none,0,rfl,rfl,by simp,hid ⟨Enc.Own.start _ _ _,(fun x hx=>by cases hx),HI.out,rfl⟩,hid (Below.refl _ _)⟩
 case round=>
  obtain⟨j,l,A,k,rfl,rfl,hl8,hown,hbw⟩:=hrel;obtain⟨ho,hlok,hj,hp⟩:=hown.out;by_cases hlt:l.length<8
  · have hlt':(l.length:Int)<8:=by omega
    obtain⟨d0,d1⟩:=HC.out wr hbw.out;obtain⟨k8,hk8⟩:∃k8,8-l.length=k8+1:=⟨7-l.length,by omega⟩
    have HG:=hid (Zer (HV.out wr hbw.out) y j HY.out hj);rw[hk8]at hp;have HPN:=hid (fun(q:nodeAt S y j=none)=>show pathN S y 8 i=l from by rw[hp,ZgG q,List.append_nil]);have HPZ:=hid (fun(n:Nd) (q:nodeAt S y j=some n) (q0:n.p=0)=>show pathN S y 8 i=l++[n]from by rw[hp,ZgH q q0])
    have HPM:=hid (fun(n:Nd) (q:nodeAt S y j=some n) (q0:n.p≠0)=>show pathN S y 8 i=(l++[n])++pathN S y (8-(l++[n]).length) n.p from by
     rw[hp,ZgI q q0,List.append_assoc,List.length_append,List.length_singleton,show 8-(l.length+1)=k8 by omega];rfl)
    have HOW:=hid (And.intro ho hlok);have hBW:=hbw.out;generalize nodeAt S y j=o at HG HPN HPZ HPM;clear ho hlok hp hown hk8;go_wp2_with fail;refine HG.out.mono ?_;rintro e w5⟨rfl,hno,hb5⟩;have ha5:=hBW.trans (hb5.mono hBW.size);have ho5:=HOW.out.1.below hb5;cases o with
    | none=>
     have hX:Below w5.heap.size w5 (w5.alloc (.cells #[.int .i64 0,.int .i64 0,.int .i64 0,.int .i64 0,.int .i64 0,.bool false,.int .i64 0,.int .i64 0,.int .i64 0,.int .i64 0,.int .i64 0,.int .i64 0] 40 (0,0))):=(Below.refl _ _).alloc (Nat.le_refl _) _
     have HE:=hid (show ZbM w (w5.alloc (.cells #[.int .i64 0,.int .i64 0,.int .i64 0,.int .i64 0,.int .i64 0,.bool false,.int .i64 0,.int .i64 0,.int .i64 0,.int .i64 0,.int .i64 0,.int .i64 0] 40 (0,0))) (.slice A l.length k) (pathN S y 8 i)from by
      rw[HPN.out rfl]
      exact⟨(ho5.below hX).base_le (by have:=HS1.out;omega),HOW.out.2,HB.out.trans ((ha5.trans (hX.mono ha5.size)).mono HB.out.size)⟩)
     clear hX ha5 ho5 HPN HPZ HPM HG hno hb5 hbw hBW;simp only[ndW,ndO,Option.getD_none,Zd1];go_wp2_with fail;rw[Exit.noGoto_ret];go_ret;exact⟨_,rfl,HE.out⟩
    | some n=>
     have hok:=hno n rfl;have hcl:ZbR n:=hok;obtain⟨a0,a1,a2,a3,a4,a5,a6,a7,a8,a9,a10,a11⟩:=n;have hX:Below w5.heap.size w5 (w5.alloc (.cells #[.int .i64 a0,.int .i64 a1,.int .i64 a2,.int .i64 a3,.int .i64 a4,.bool a5,.int .i64 a6,.int .i64 a7,.int .i64 a8,.int .i64 a9,.int .i64 a10,.int .i64 a11] 40 (0,0))):=(Below.refl _ _).alloc (Nat.le_refl _) _;obtain⟨wx,hwx⟩:∃wx,wx=w5.alloc (.cells #[.int .i64 a0,.int .i64 a1,.int .i64 a2,.int .i64 a3,.int .i64 a4,.bool a5,.int .i64 a6,.int .i64 a7,.int .i64 a8,.int .i64 a9,.int .i64 a10,.int .i64 a11] 40 (0,0)):=⟨_,rfl⟩
     have hblk:wx.heap[w5.heap.size]?=some (.cells #[.int .i64 a0,.int .i64 a1,.int .i64 a2,.int .i64 a3,.int .i64 a4,.bool a5,.int .i64 a6,.int .i64 a7,.int .i64 a8,.int .i64 a9,.int .i64 a10,.int .i64 a11] 40 (0,0)):=by rw[hwx];exact heap_alloc_new w5 _
     have hsz:wx.heap.size=w5.heap.size+1:=by rw[hwx];simp
     rw[<-hwx]at hX;obtain⟨r0,r1,r2,r3,r4,r5,r6,r7,r8,r9,r10,r11⟩:=Zq hblk;have hY:Below wx.heap.size wx (wx.alloc (.cells #[.int .i64 a0,.int .i64 a1,.int .i64 a2,.int .i64 a3,.int .i64 a4,.bool a5,.int .i64 a6,.int .i64 a7,.int .i64 a8,.int .i64 a9,.int .i64 a10,.int .i64 a11] 40 (0,0))):=(Below.refl _ _).alloc (Nat.le_refl _) _;have hXY:=hX.trans (hY.mono hX.size);obtain⟨v',w6,hrun,hown6,hb6,hg,hgr⟩:=(ho5.below hXY).append1 NdT (x:=⟨a0,a1,a2,a3,a4,a5,a6,a7,a8,a9,a10,a11⟩) (heap_alloc_new wx _) rfl hok (by omega) (Nat.le_trans ha5.size hXY.size) 22;rw[hsz]at hrun;obtain⟨A6,k6,rfl,hk6⟩:=hown6.shape;have hlen6:(l++[(⟨a0,a1,a2,a3,a4,a5,a6,a7,a8,a9,a10,a11⟩:Nd)]).length=l.length+1:=by rw[List.length_append];rfl
     rw[hlen6]at hrun hown6;have HBX:=hid ((ha5.trans (hXY.mono ha5.size)).trans hb6)
     have hcell2:w6.cell? ⟨w5.heap.size,2,none⟩=some (.int .i64 a2):=by
      have hno:(Value.slice A l.length k).ownBlock≠some w5.heap.size:=fun q=>Nat.lt_irrefl _ ((ho5.at_ _ q).2)
      have hb:=(hg.block w5.heap.size (by show w5.heap.size<(wx.alloc _).heap.size;have:=hY.size;omega) (fun q=>hno q.symm)).trans (hY.block _ (by omega));exact(World.cell?_of_block (a:=⟨w5.heap.size,2,none⟩) hb).trans r2
     have hl':∀x∈l++[(⟨a0,a1,a2,a3,a4,a5,a6,a7,a8,a9,a10,a11⟩:Nd)],ZbR x:=fun x hx=>by
      rcases List.mem_append.1 hx with hx|hx
      · exact HOW.out.2 x hx
      · obtain rfl:=List.mem_singleton.1 hx;exact hok
     have HL':=hid hl';have HO6:=hid hown6;have HA2:=hid (show ZS a2 from hcl _ (by simp));by_cases h0:a2=0
     · have h0':(a2 == 0)=true:=by simp[h0]
       have HE:=hid (show ZbM w w6 (.slice A6 (l.length+1) k6) (pathN S y 8 i)from by
        rw[HPZ.out _ rfl h0];have q:=HO6.out
        exact⟨q.base_le (by have:=HS1.out;omega),HL'.out,HB.out.trans (HBX.out.mono HB.out.size)⟩)
       have HRUN:=hid hrun;subst hwx;clear hX hY hXY ha5 ho5 HPN HPZ HPM HG hno hb5 hbw hBW hrun hown6 hb6 hblk hok hcl hsz hl' hcell2 hgr hk6 hlen6 h0;simp only[ndW,ndO,Option.getD_some]
       go_wp2_with (at_builtin;refine Lib.wpList_append_run _ rfl _ _ _ _ rfl _ _ rfl rfl _ _ HRUN.out ?_)
       rw[Exit.noGoto_ret];go_ret;exact⟨_,rfl,HE.out⟩
     · have h0':(a2 == 0)=false:=by simp[h0]
       have HE:=hid (show NdE.Own 40 w6 w1.heap.size (.slice A6 (l++[(⟨a0,a1,a2,a3,a4,a5,a6,a7,a8,a9,a10,a11⟩:Nd)]).length k6) (l++[⟨a0,a1,a2,a3,a4,a5,a6,a7,a8,a9,a10,a11⟩])/\(∀x∈l++[(⟨a0,a1,a2,a3,a4,a5,a6,a7,a8,a9,a10,a11⟩:Nd)],ZbR x)/\ZS a2/\pathN S y 8 i=(l++[⟨a0,a1,a2,a3,a4,a5,a6,a7,a8,a9,a10,a11⟩])++pathN S y (8-(l++[(⟨a0,a1,a2,a3,a4,a5,a6,a7,a8,a9,a10,a11⟩:Nd)]).length) a2 from
        ⟨by rw[hlen6];exact HO6.out,HL'.out,HA2.out,HPM.out _ rfl h0⟩)
       have HLEN:=hid hlen6;have HRUN:=hid hrun;subst hwx;clear hX hY hXY ha5 ho5 HPN HPZ HPM HG hno hb5 hbw hBW hrun hown6 hb6 hblk hok hcl hsz hl' hgr hk6 hlen6 h0;simp only[ndW,ndO,Option.getD_some]
       go_wp2_with (at_builtin;refine Lib.wpList_append_run _ rfl _ _ _ _ rfl _ _ rfl rfl _ _ HRUN.out ?_)
       go_roundw
       case rel=>exact⟨a2,_,A6,k6,rfl,by rw[HLEN.out],by rw[HLEN.out];omega,HE,HBX⟩
       case measure=>simp[ZeK];omega
  · have hl:l.length=8:=by omega
    have HE:=hid (show ZbM w wr (.slice A l.length k) (pathN S y 8 i)from by
     rw[hp,hl];show ZbM _ _ _ (l++pathN S y 0 j);unfold pathN;rw[List.append_nil,<-hl]
     exact⟨ho.base_le (by have:=HS1.out;omega),hlok,HB.out.trans (hbw.out.mono HB.out.size)⟩)
    clear ho hlok hp hown;go_wp2;rw[Exit.noGoto_ret];go_ret;exact⟨_,rfl,HE.out⟩
theorem Zjp(h:Ze w X v m c S)(y i:Int)(hy:ZS y)(hi:ZS i) :
 Calls prog 220 #[.pointer (some ⟨v,0,none⟩),.int .i64 y,.int .i64 i] w fun e w'=>∃u,e=.returned u/\ZbM w w' u (pathN S y 8 i):=by
 have HL:=hid (ZfR h y i hy hi);generalize pathN S y 8 i=o at HL ⊢;clear h;go_enter func220,ntmps220;go_wp2_with fail;refine HL.out.mono ?_;rintro e w2⟨u,rfl,h2⟩;have HE:=hid h2;clear h2 HL;go_wp2_with fail;go_ret;exact⟨_,rfl,HE.out⟩
end
end Go.Proofs.YtiknkbpojmgbhaaGreat
