/- YrC, YrD, CtlR. Conditions: in each theorem. -/
import Derived.Test.YtiknkbpojmgbhaaGreatYrB
import Derived.Test.YtiknkbpojmgbhaaGreatManS
import Derived.Test.YtiknkbpojmgbhaaGreatSeqS
import Derived.Test.YtiknkbpojmgbhaaGreatDocV
import Derived.Test.YtiknkbpojmgbhaaGreatTreS
import Derived.Test.YtiknkbpojmgbhaaGreatDocM
import Derived.Test.YtiknkbpojmgbhaaGreatPreO
set_option maxHeartbeats 25600000
set_option maxRecDepth 100000
set_option linter.unusedVariables false
open Go.Proofs.Tryz
open Go.Lib (hid)
namespace Go.Proofs.YtiknkbpojmgbhaaGreat
open Go.RowKit Go.Maps
theorem ZjJ(a:Int)(w:World):Calls prog 92 #[.int .i64 a] w fun e w'=>e=.returned (.bool (ZkM a))/\w=w':=by
 unfold ZkM;by_cases h:2000<=a
 · go_enter func92,ntmps92;go_wp2;go_ret;simp;omega
 · go_enter func92,ntmps92;go_wp2;go_ret;simp;omega
section
variable{w w':World}{X:Nat->Prop}{x p q r:Nat}{a b d:TL}
theorem ZkW(t n:Int)(W:World)(g:Nat)(T:TypeId)(ht:0<=t/\t<256)(h:W.heap[g]?=some (.cells #[.int .i64 n] T (0,0)))(hn : -9223372036854775808<=n/\n<=9223372036854775807) :
 Calls prog 126 #[.int .u8 t,.slice (some ⟨g,0,none⟩) 1 1] W fun e w'=>∃A c,e=.returned (.slice A 5 c)/\SV w' (fun k=>k<W.heap.size) (.slice A 5 c) (Zi t [n])/\Below W.heap.size W w':=by
 have hr:RI W W.heap.size (some ⟨g,0,none⟩) 1 [n]:=by
  refine⟨rfl,fun y hy=>by obtain rfl:=List.mem_singleton.1 hy;exact hn,fun _=>⟨g,0,rfl,(Array.getElem?_eq_some_iff.1 h).1,fun j hj=>?_⟩⟩;rw[Nat.zero_add,cell_of_row W g j _ T (0,0) h];obtain rfl:j=0:=by simpa using hj
  rfl
 refine(ZeH t _ 1 1 _ [n] W ht hr (Nat.le_refl _) (Nat.le_refl _) (by decide)).mono ?_;rintro e w'⟨u,rfl,ho⟩;have e5:(Zi t [n]).length=5:=by unfold Zi;rw[Zt];rfl
 have hs:=Zeq ho (Zk ht _) (by rw[e5];omega);obtain⟨A,c,rfl,h1,h2⟩:=ho.read (Zk ht _);rw[e5]at hs ⊢;exact⟨A,c,rfl,hs,ho.2⟩
theorem ZeS(h:ZH w X x p q r a b d)(hN:b.length<=2147483647)(n:Int)(hn : -9223372036854775808<=n/\n<=9223372036854775807) :
 Calls prog 93 #[.pointer (some ⟨x,0,none⟩),.int .i64 n] w fun e w'=>e=.returned (.int .i64 (stV (Zf b (ZbO n))))/\Below w.heap.size w w':=by
 have hb1:Below w.heap.size w (w.alloc (.cells #[.int .i64 n] 3)):=(Below.refl _ _).alloc (Nat.le_refl _) _;have HK:=hid (ZkW 89 n (w.alloc (.cells #[.int .i64 n] 3)) w.heap.size 3 (by omega) (heap_alloc_new w _) hn);have HNUM:=hid (show ∀W A c,Below w.heap.size w W->RB W W.heap.size A 5 (Zi 89 [n])->Calls prog 178 #[.pointer (some ⟨x,0,none⟩),.slice A 5 c] W fun e w'=>∃ok,e=.returned (.tuple #[.int .i64 (seqV (Zf b (ZbO n))),.bool ok])/\Below W.heap.size W w' from fun W A c hb hr=>ZhL (h.below hb) hN hr (Nat.le_refl _));unfold stV;generalize seqV (Zf b (ZbO n))=k at HNUM ⊢;have HB:=hid hb1;clear h hb1;by_cases h1:k=1
 · subst h1;rw[if_pos (.inl rfl)];go_enter func93,ntmps93;go_wp2_with fail;refine HK.out.mono ?_;rintro e w2⟨A,c,rfl,hs,hb2⟩;obtain⟨s1,s2,s3⟩:=hs.parts;have hP:=HB.out.trans (hb2.mono HB.out.size);have HM:=hid (HNUM.out w2 A c hP s1);have HP:=hid hP;clear s1 s2 s3 hs hb2 hP HK HNUM HB;go_wp2_with fail;refine HM.out.mono ?_;rintro e w3⟨ok,rfl,hb3⟩;have HE:=hid (HP.out.trans (hb3.mono HP.out.size));clear hb3 HP HM;go_wp2_with fail;go_ret;exact⟨rfl,HE.out⟩
 · by_cases h2:k=2
   · subst h2;rw[if_pos (.inr rfl)];go_enter func93,ntmps93;go_wp2_with fail;refine HK.out.mono ?_;rintro e w2⟨A,c,rfl,hs,hb2⟩;obtain⟨s1,s2,s3⟩:=hs.parts;have hP:=HB.out.trans (hb2.mono HB.out.size);have HM:=hid (HNUM.out w2 A c hP s1);have HP:=hid hP;clear s1 s2 s3 hs hb2 hP HK HNUM HB;go_wp2_with fail;refine HM.out.mono ?_;rintro e w3⟨ok,rfl,hb3⟩;have HE:=hid (HP.out.trans (hb3.mono HP.out.size));clear hb3 HP HM;go_wp2_with fail;go_ret;exact⟨rfl,HE.out⟩
   · rw[if_neg (fun z=>z.elim h1 h2)];have e1:(k == 1)=false:=by simp;omega
     have e2:(k == 2)=false:=by simp;omega
     clear h1 h2;go_enter func93,ntmps93;go_wp2_with fail;refine HK.out.mono ?_;rintro e w2⟨A,c,rfl,hs,hb2⟩;obtain⟨s1,s2,s3⟩:=hs.parts;have hP:=HB.out.trans (hb2.mono HB.out.size);have HM:=hid (HNUM.out w2 A c hP s1);have HP:=hid hP;clear s1 s2 s3 hs hb2 hP HK HNUM HB;go_wp2_with fail;refine HM.out.mono ?_;rintro e w3⟨ok,rfl,hb3⟩;have HE:=hid (HP.out.trans (hb3.mono HP.out.size));clear hb3 HP HM;go_wp2_with fail;go_ret;exact⟨rfl,HE.out⟩
theorem ZjK(h:ZH w X x p q r a b d)(hN:b.length<=2147483647)(n:Int)(hn : -9223372036854775808<=n/\n<=9223372036854775807) :
 Calls prog 111 #[.pointer (some ⟨x,0,none⟩),.int .i64 n] w fun e w'=>e=.returned (.int .i64 (Zoz (stV (Zf b (ZbO n)))))/\Below w.heap.size w w':=by
 have HL:=hid (ZeS h hN n hn);have h3:=ZfK (Zf b (ZbO n));generalize stV (Zf b (ZbO n))=k at HL h3 ⊢;clear h
 rcases h3 with rfl|rfl|rfl <;> (
  go_enter func111,ntmps111;go_wp2_with fail;refine HL.out.mono ?_;rintro e w2⟨rfl,hb2⟩;have HE:=hid hb2;clear hb2 HL;go_wp2_with fail;go_ret
  exact⟨rfl,HE.out⟩)
theorem ZmU(h:ZH w X x p q r a b d)(hN:b.length<=2147483647)(hD:d.length<=2147483647)(n s:Int)(hn : -9223372036854775808<=n/\n<=9223372036854775807)(hs : -9223372036854775808<=s/\s<=9223372036854775807) :
 Calls prog 94 #[.pointer (some ⟨x,0,none⟩),.int .i64 n,.int .i64 s] w fun e w'=>e=.returned (.int .i64 0)/\ZH w' X x p q r a (Zaw b (ZbO n) (Zj 8 [s])) (Zaw d (ZbO n) [])/\Za (fun k=>k=q∨k=r) w w':=by
 have HR:=hid h;have hb3:Below w.heap.size w (w.alloc (.cells #[.int .i64 n] 3)):=(Below.refl _ _).alloc (Nat.le_refl _) _;have HK:=hid (ZkW 89 n (w.alloc (.cells #[.int .i64 n] 3)) w.heap.size 3 (by omega) (heap_alloc_new w _) hn);have HB:=hid hb3;clear hb3 h;go_enter func94,ntmps94;go_wp2_with fail;refine HK.out.mono ?_;rintro e w4⟨A,c,rfl,hs4,hb4⟩;have hb5:Below w4.heap.size w4 (w4.alloc (.cells #[.int .i64 s] 3)):=(Below.refl _ _).alloc (Nat.le_refl _) _;have HP:=hid (Zct s (w4.alloc (.cells #[.int .i64 s] 3)) w4.heap.size 3 (heap_alloc_new w4 _) hs);have HS:=hid (And.intro hs4 (And.intro (HB.out.trans (hb4.mono HB.out.size)) hb5));clear hs4 hb4 hb5 HK;go_wp2_with fail;refine HP.out.mono ?_;rintro e w6⟨A2,c2,rfl,hs2,hb6⟩;have hb7:=HS.out.2.2.trans (hb6.mono HS.out.2.2.size);have hb8:=HS.out.2.1.trans (hb7.mono HS.out.2.1.size);have hXl:=HR.out.old;have hk1:SV w6 X (.slice A 5 c) (Zi 89 [n]):=Za9 HS.out.1 (fun z hz=>Nat.lt_of_lt_of_le (hXl z hz) HB.out.size) hb7;have hk2:SV w6 X (.slice A2 8 c2) (Zj 8 [s]):=Za9 hs2 (fun z hz=>Nat.lt_of_lt_of_le (hXl z hz) (Nat.le_trans HS.out.2.1.size HS.out.2.2.size)) (Below.refl _ _);have hput:=Zcs (HR.out.below hb8) hN hD hk1 hk2;rw[ZfL,if_pos rfl,if_pos rfl]at hput;have HQ:=hid hput;have HB8:=hid hb8;clear hs2 hb6 hb7 hb8 hXl hk1 hk2 hput HP HS HR HB;go_wp2_with fail;refine HQ.out.mono ?_;rintro e w7⟨rfl,hr7,ht7⟩;have HE:=hid (And.intro hr7 ((Za.of_below HB8.out).trans ht7));clear hr7 ht7 HQ HB8;go_wp2_with fail;go_ret;exact⟨rfl,HE.out⟩
theorem ZlD(h:ZH w X x p q r a b d)(hN:b.length<=2147483647)(hD:d.length<=2147483647)(n:Int)(hn : -9223372036854775808<=n/\n<=9223372036854775807) :
 Calls prog 44 #[.pointer (some ⟨x,0,none⟩),.int .i64 n] w fun e w'=>e=.returned (.int .i64 (ZdH (Zf b (ZbO n)) n))/\ZH w' X x p q r a (if ZdH (Zf b (ZbO n)) n=0 then Zaw b (ZbO n) (Zj 8 [1])else b) (if ZdH (Zf b (ZbO n)) n=0 then Zaw d (ZbO n) []else d)/\Za (fun k=>k=q∨k=r) w w':=by
 have HR:=hid (ZjJ n w);have HSAME:=hid (show ∀W,Below w.heap.size w W->ZH W X x p q r a b d/\Za (fun k=>k=q∨k=r) w W from fun W hb=>⟨h.below hb,Za.of_below hb⟩);unfold ZdH
 cases hy:ZkM n with
 | false=>
  rw[if_neg (by decide),if_neg (by decide),if_neg (by decide)];rw[hy]at HR;clear h hy;go_enter func44,ntmps44;go_wp2_with fail;refine HR.out.mono ?_;rintro e w1⟨rfl,rfl⟩;go_wp2_with fail;go_ret;exact⟨rfl,HSAME.out _ (Below.refl _ _)⟩
 | true=>
 rw[if_pos rfl];rw[hy]at HR;have HS:=hid (ZeS h hN n hn);have HSET:=hid (show ∀W,Below w.heap.size w W->Calls prog 94 #[.pointer (some ⟨x,0,none⟩),.int .i64 n,.int .i64 1] W fun e w'=>e=.returned (.int .i64 0)/\ZH w' X x p q r a (Zaw b (ZbO n) (Zj 8 [1])) (Zaw d (ZbO n) [])/\Za (fun k=>k=q∨k=r) W w' from fun W hb=>ZmU (h.below hb) hN hD n 1 hn (by omega));generalize stV (Zf b (ZbO n))=k at HS ⊢;clear h hy;by_cases hk:k=0
 · subst hk;rw[if_pos rfl,if_pos rfl,if_pos rfl];go_enter func44,ntmps44;go_wp2_with fail;refine HR.out.mono ?_;rintro e w2⟨rfl,rfl⟩;go_wp2_with fail;refine HS.out.mono ?_;rintro e w3⟨rfl,hb3⟩;have HQ:=hid (HSET.out _ hb3);have HB3:=hid hb3;clear hb3 HS HSET;go_wp2_with fail;refine HQ.out.mono ?_;rintro e w4⟨rfl,hv4,ht4⟩;have HE:=hid (And.intro hv4 ((Za.of_below HB3.out).trans ht4));clear hv4 ht4 HQ;go_wp2_with fail;go_ret;exact⟨rfl,HE.out⟩
 · rw[if_neg hk,if_neg (by decide),if_neg (by decide)];have hk2:(k != 0)=true:=by simp[hk]
   clear hk HSET;go_enter func44,ntmps44;go_wp2_with fail;refine HR.out.mono ?_;rintro e w2⟨rfl,rfl⟩;go_wp2_with fail;refine HS.out.mono ?_;rintro e w3⟨rfl,hb3⟩;have HE:=hid hb3;clear hb3 HS;go_wp2_with fail;go_ret;exact⟨rfl,HSAME.out _ HE.out⟩
end
theorem Zb7(n:Int):IntKind.i64.wrap n=wrap64 n:=by rw[IntKind.wrap_i64];unfold wrap64;omega
def okF(n:Int):Bool:=!(ZmC 0 1152921504606846976 n)
def okT(n:Int):Bool:=!(ZmC (-1152921504606846976) 1152921504606846976 n)
theorem ZoF(n:Int)(w:World):Calls prog 203 #[.int .i64 n] w fun e w'=>e=.returned (.bool (okF n))/\w=w':=by
 unfold okF ZmC;by_cases g1:n<0
 · have k1:decide (0<=n)=false:=decide_eq_false (by omega);rw[decide_eq_true g1,Bool.true_or,Bool.not_true];clear g1;go_enter func203,ntmps203;go_wp2_with fail;go_ret;exact⟨rfl,rfl⟩
 · have k1:decide (0<=n)=true:=decide_eq_true (by omega);rw[decide_eq_false g1,Bool.false_or];by_cases g2:n>1152921504606846976
   · have k2:decide (n<=1152921504606846976)=false:=decide_eq_false (by omega);rw[decide_eq_true g2,Bool.not_true];clear g1 g2;go_enter func203,ntmps203;go_wp2_with fail;go_ret;exact⟨rfl,rfl⟩
   · have k2:decide (n<=1152921504606846976)=true:=decide_eq_true (by omega);rw[decide_eq_false g2,Bool.not_false];clear g1 g2;go_enter func203,ntmps203;go_wp2_with fail;go_ret;exact⟨rfl,rfl⟩
theorem ZoG(n:Int)(w:World):Calls prog 246 #[.int .i64 n] w fun e w'=>e=.returned (.bool (okT n))/\w=w':=by
 unfold okT ZmC;by_cases g1:n < -1152921504606846976
 · have k1:decide (-1152921504606846976<=n)=false:=decide_eq_false (by omega);rw[decide_eq_true g1,Bool.true_or,Bool.not_true];clear g1;go_enter func246,ntmps246;go_wp2_with fail;go_ret;exact⟨rfl,rfl⟩
 · have k1:decide (-1152921504606846976<=n)=true:=decide_eq_true (by omega);rw[decide_eq_false g1,Bool.false_or];by_cases g2:n>1152921504606846976
   · have k2:decide (n<=1152921504606846976)=false:=decide_eq_false (by omega);rw[decide_eq_true g2,Bool.not_true];clear g1 g2;go_enter func246,ntmps246;go_wp2_with fail;go_ret;exact⟨rfl,rfl⟩
   · have k2:decide (n<=1152921504606846976)=true:=decide_eq_true (by omega);rw[decide_eq_false g2,Bool.not_false];clear g1 g2;go_enter func246,ntmps246;go_wp2_with fail;go_ret;exact⟨rfl,rfl⟩
theorem ZjL(x:Nd)(more:Int)(w:World):Calls prog 204 #[.agg #[.int .i64 x.y,.int .i64 x.i,.int .i64 x.p,.int .i64 x.f,.int .i64 x.o,.bool x.ab,.int .i64 x.li,.int .i64 x.pr,.int .i64 x.en,.int .i64 x.ex,.int .i64 x.la,.int .i64 x.ca],.int .i64 more] w fun r w'=>r=.returned (.tuple #[.bool (allowsN x more).1,.bool (allowsN x more).2])/\Below w.heap.size w w':=by
 obtain⟨w1,hw1⟩:∃w1,w1=w.alloc (.cells #[.int .i64 x.y,.int .i64 x.i,.int .i64 x.p,.int .i64 x.f,.int .i64 x.o,.bool x.ab,.int .i64 x.li,.int .i64 x.pr,.int .i64 x.en,.int .i64 x.ex,.int .i64 x.la,.int .i64 x.ca] 40):=⟨_,rfl⟩
 have hb1:Below w.heap.size w w1:=by rw[hw1];exact(Below.refl _ _).alloc (Nat.le_refl _) _
 have hblk:w1.heap[w.heap.size]?=some (.cells #[.int .i64 x.y,.int .i64 x.i,.int .i64 x.p,.int .i64 x.f,.int .i64 x.o,.bool x.ab,.int .i64 x.li,.int .i64 x.pr,.int .i64 x.en,.int .i64 x.ex,.int .i64 x.la,.int .i64 x.ca] 40 (0,0)):=by rw[hw1];exact heap_alloc_new w _
 have hs1:w1.heap.size=w.heap.size+1:=by rw[hw1];simp
 have HU:=hid (fun W=>Zoh x W);have HC:=hid (show ∀W,Below w1.heap.size w1 W->W.heap[w.heap.size]?=some (.cells #[.int .i64 x.y,.int .i64 x.i,.int .i64 x.p,.int .i64 x.f,.int .i64 x.o,.bool x.ab,.int .i64 x.li,.int .i64 x.pr,.int .i64 x.en,.int .i64 x.ex,.int .i64 x.la,.int .i64 x.ca] 40 (0,0))from fun W hW=>(hW.block w.heap.size (by omega)).trans hblk);have HB:=hid hb1;have HI:=hid (fun n W=>ZoG n W);have E0:allowsN x more=if more>1152921504606846976∨(okT (usedN x)&&(okT x.li&&true))=false then(false,false)else if more<1∨wrap64 (usedN x+more)<=x.li then(true,false)else if x.ab=true then(false,false)else(true,true):=rfl
 generalize allowsN x more=res at E0 ⊢;generalize usedN x=us at HU E0;obtain⟨y,i,p,f,o,ab,li,pr,en,ex,la,ca⟩:=x;simp only at HU HC hw1 E0 ⊢;have E:=hid E0;clear E0 hb1 hs1 hblk;go_enter func204,ntmps204;go_wp2_with fail;rw[<-hw1];clear hw1;refine(HU.out _).mono ?_;rintro r w2⟨rfl,hb2⟩;obtain⟨z0,z1,z2,z3,z4,z5,z6,z7,z8,z9,z10,z11⟩:=Zq (HC.out w2 hb2);have HE:=hid (HB.out.trans (hb2.mono HB.out.size));clear hb2 HU HC HB;by_cases g0:more>1152921504606846976
 · have k0:decide (more>1152921504606846976)=true:=decide_eq_true g0;have hres:res=(false,false):=by rw[E.out,if_pos (.inl g0)]
   subst hres;clear E;go_wp2_with fail;go_ret2;exact⟨rfl,HE.out⟩
 · have k0:decide (more>1152921504606846976)=false:=decide_eq_false g0;have G0:=hid g0;clear g0;go_wp2_with fail;refine(HI.out _ _).mono ?_;rintro r w'⟨rfl,rfl⟩;obtain⟨t1,ht1⟩:∃t,t=okT us:=⟨_,rfl⟩
   have E2:=E.out;rw[<-ht1]at E2 ⊢;have E:=hid E2;clear E2 ht1;cases t1 with
   | false=>
    have hres:res=(false,false):=by rw[E.out,if_pos (.inr (by rfl))]
    subst hres;clear E;go_wp2_with fail;go_ret2;exact⟨rfl,HE.out⟩
   | true=>
    go_wp2_with fail;refine(HI.out _ _).mono ?_;rintro r w'⟨rfl,rfl⟩;obtain⟨t2,ht2⟩:∃t,t=okT li:=⟨_,rfl⟩
    have E2:=E.out;rw[<-ht2]at E2 ⊢;have E:=hid E2;clear E2 ht2;cases t2 with
    | false=>
     have hres:res=(false,false):=by rw[E.out,if_pos (.inr (by rfl))]
     subst hres;clear E;go_wp2_with fail;go_ret2;exact⟨rfl,HE.out⟩
    | true=>
     have E2:=E.out;rw[if_neg (by rintro(q|q);exact absurd q (by have:=G0.out;omega);cases q)]at E2;have E:=hid E2;clear E2 G0;by_cases g1:more<1
     · have k1:decide (more<1)=true:=decide_eq_true g1;have hres:res=(true,false):=by rw[E.out,if_pos (.inl g1)]
       subst hres;clear E g1;go_wp2_with fail;go_ret2;exact⟨rfl,HE.out⟩
     · have k1:decide (more<1)=false:=decide_eq_false g1;obtain⟨sm,hsm⟩:∃sm,wrap64 (us+more)=sm:=⟨_,rfl⟩
       have hsm':IntKind.i64.wrap (us+more)=sm:=(Zb7 _).trans hsm;by_cases g2:sm<=li
       · have k2:decide (sm<=li)=true:=decide_eq_true g2;have hres:res=(true,false):=by rw[E.out,if_pos (.inr (by rw[hsm];exact g2))]
         subst hres;clear E g1 g2;go_wp2_with fail;go_ret2;exact⟨rfl,HE.out⟩
       · have k2:decide (sm<=li)=false:=decide_eq_false g2;have E2:=E.out;rw[if_neg (by rintro(q|q);exact g1 q;rw[hsm]at q;exact g2 q)]at E2;have E:=hid E2;clear E2 g1 g2;cases ab with
         | true=>
          have hres:res=(false,false):=by rw[E.out,if_pos (by rfl)]
          subst hres;clear E;go_wp2_with fail;go_ret2;exact⟨rfl,HE.out⟩
         | false=>
          have hres:res=(true,true):=by rw[E.out,if_neg (by decide)]
          subst hres;clear E;go_wp2_with fail;go_ret2;exact⟨rfl,HE.out⟩
theorem ZoH{p e q m1 m2 l1 l2:Int}(hm1:(if p<e then e else p)=m1)(hm2:(if m1<q then q else m1)=m2)(hl1:(if e<p then e else p)=l1)(hl2:(if q<l1 then q else l1)=l2)(h:inC (-9007199254740992) 9007199254740992 [p,e,q]=true):decide (9007199254740992<m2)=false/\decide (l2 < -9007199254740992)=false:=by
 have a:=ZjI h p (by simp);have b:=ZjI h e (by simp);have c:=ZjI h q (by simp);refine⟨decide_eq_false ?_,decide_eq_false ?_⟩
 · split at hm1 <;> split at hm2 <;> omega
 · split at hl1 <;> split at hl2 <;> omega
theorem ZmV{p e q m1 m2 l1 l2:Int}(hm1:(if p<e then e else p)=m1)(hm2:(if m1<q then q else m1)=m2)(hl1:(if e<p then e else p)=l1)(hl2:(if q<l1 then q else l1)=l2)(h:inC (-9007199254740992) 9007199254740992 [p,e,q]=false)(h1:decide (9007199254740992<m2)=false):decide (l2 < -9007199254740992)=true:=by
 unfold inC ZmC at h;simp only[List.all_cons,List.all_nil,Bool.and_true,Bool.and_eq_false_iff,Bool.not_eq_false',Bool.or_eq_true,decide_eq_true_eq]at h
 have:=of_decide_eq_false h1
 refine decide_eq_true ?_
 split at hm1 <;> split at hm2 <;> split at hl1 <;> split at hl2 <;> omega
def ZpY(w w1 wr:World)(X:Nat->Prop)(x pp qq r:Nat)(a:TL)(S:VS)(N:Nat)(P:List Nd)(p e q:Int)(j:Nat):Prop:=
 ZP wr X x pp qq r a (((P.take j).map fun x=>growN x p e q).foldl VS.putN S) (N+j)/\Za (fun k=>k=qq∨k=r) w1 wr/\∀x∈P.take j,(chkN x p e q).2=0
section
variable{w w':World}{X:Nat->Prop}{x pp qq r N:Nat}{a:TL}{S:VS}
theorem Zh7(h:ZP w X x pp qq r a S N)(hN:N<=1000000000)(n:Nd)(hn:ZbR n) :
 Calls prog 46 #[.pointer (some ⟨x,0,none⟩),.agg #[.int .i64 n.y,.int .i64 n.i,.int .i64 n.p,.int .i64 n.f,.int .i64 n.o,.bool n.ab,.int .i64 n.li,.int .i64 n.pr,.int .i64 n.en,.int .i64 n.ex,.int .i64 n.la,.int .i64 n.ca]] w fun e w'=>e=.returned (.int .i64 0)/\ZP w' X x pp qq r a (S.putN n) (N+1)/\Za (fun k=>k=qq∨k=r) w w':=by
 obtain⟨b,d,h1,h2,h3,h4⟩:=h;refine(Zoi h1 (Nat.le_trans h3 (by omega)) (Nat.le_trans h4 (by omega)) n hn).mono ?_;rintro e w'⟨rfl,h5,h6⟩;exact⟨rfl,⟨_,_,h5,h2.put _ _,Nat.le_trans (ZL _ _ _) (Nat.succ_le_succ h3),Nat.le_trans (ZL _ _ _) (Nat.succ_le_succ h4)⟩,h6⟩
theorem ZlE(h:ZP w X x pp qq r a S N)(hN:N<=1000000000)(y i:Int)(hy:ZS y)(hi:ZS i) :
 Calls prog 153 #[.pointer (some ⟨x,0,none⟩),.int .i64 y,.int .i64 i] w fun e w'=>∃u,e=.returned u/\ZbM w w' u (pathN S y 8 i):=by
 obtain⟨b,d,h1,h2,h3,h4⟩:=h;exact Zmt h1 h2.now (Nat.le_trans h3 (by omega)) y i hy hi
theorem ZjM(h:ZP w X x pp qq r a S N)(hm:Zv S N)(hN:N<=1000000)(y i p e q:Int)(hy:ZS y)(hi:ZS i)(hp:ZS p)(he:ZS e)(hq:ZS q) :
 Calls prog 116 #[.pointer (some ⟨x,0,none⟩),.int .i64 y,.int .i64 i,.int .i64 p,.int .i64 e,.int .i64 q] w fun u w'=>∃T,u=.returned (.tuple #[.bool (chargeR S y i p e q).1.1,.int .i64 (chargeR S y i p e q).1.2])/\((chargeR S y i p e q).1.2=0->T=(chargeR S y i p e q).2)/\ZP w' X x pp qq r a T (N+8)/\Zv T (N+8)/\T.W=S.W/\Za (fun k=>k=qq∨k=r) w w':=by
 have hP8:=ZdC S y 8 i;have HP:=hid (ZlE h (by omega) y i hy hi);have HV:=hid (show ∀W,Below w.heap.size w W->ZP W X x pp qq r a S N from fun W hW=>h.below hW);have hqw:qq<w.heap.size/\r<w.heap.size:=⟨h.old _ h.own.1,h.old _ h.own.2⟩
 have e0:(pathN S y 8 i).length=0->chargeR S y i p e q=((false,7),S):=fun h=>by unfold chargeR;rw[if_pos (List.eq_nil_of_length_eq_zero h)]
 have e1:(pathN S y 8 i).length≠0->inC (-9007199254740992) 9007199254740992 [p,e,q]=false->chargeR S y i p e q=((false,9),S):=fun h g=>by unfold chargeR;rw[if_neg (fun q=>h (by rw[q];rfl)),if_pos g]
 have e2:(pathN S y 8 i).length≠0->inC (-9007199254740992) 9007199254740992 [p,e,q]=true->(∀x∈pathN S y 8 i,(chkN x p e q).2=0)->chargeR S y i p e q=((Zc3 (pathN S y 8 i) p e q,0),((pathN S y 8 i).map fun x=>growN x p e q).foldl VS.putN S):=fun h g k=>by unfold chargeR;rw[if_neg (fun q=>h (by rw[q];rfl)),if_neg (by rw[g];decide),ZmQ k,if_pos rfl]
 have e3:(pathN S y 8 i).length≠0->inC (-9007199254740992) 9007199254740992 [p,e,q]=true->∀(j:Nat) (x:Nd),(pathN S y 8 i)[j]?=some x->(∀z∈(pathN S y 8 i).take j,(chkN z p e q).2=0)->(chkN x p e q).2≠0->chargeR S y i p e q=((false,(chkN x p e q).2),S):=fun h g j x hx hz hn=>by unfold chargeR;rw[if_neg (fun q=>h (by rw[q];rfl)),if_neg (by rw[g];decide),ZgX hx hz hn,if_neg hn]
 have E:=hid (And.intro e0 (And.intro e1 (And.intro e2 e3)));clear e0 e1 e2 e3;generalize chargeR S y i p e q=res at E ⊢;generalize pathN S y 8 i=P at HP hP8 E;obtain⟨m1,hm1⟩:∃m1,(if p<e then e else p)=m1:=⟨_,rfl⟩
 obtain⟨m2,hm2⟩:∃m2,(if m1<q then q else m1)=m2:=⟨_,rfl⟩
 obtain⟨l1,hl1⟩:∃l1,(if e<p then e else p)=l1:=⟨_,rfl⟩
 obtain⟨l2,hl2⟩:∃l2,(if q<l1 then q else l1)=l2:=⟨_,rfl⟩
 have hti:=ZoH hm1 hm2 hl1 hl2;have hto:=ZmV hm1 hm2 hl1 hl2;generalize inC (-9007199254740992) 9007199254740992 [p,e,q]=bb at E hti hto;have HM:=hid hm;have HSAME:=hid (show ∀(v:(Bool×Int)) W,v.2≠0->Below w.heap.size w W->∃T,ZP W X x pp qq r a T (N+8)/\Zv T (N+8)/\T.W=S.W/\Za (fun k=>k=qq∨k=r) w W from fun v W h0 hW=>⟨S,(h.below hW).more (by omega),hm.more (by omega),rfl,Za.of_below hW⟩);clear h hm;go_enter func116,ntmps116;go_wp2_with fail;refine HP.out.mono ?_;rintro u w1⟨u,rfl,h1⟩;by_cases hn0:P.length=0
 · obtain rfl:=E.out.1 hn0;obtain⟨A,k,rfl,hk⟩:=h1.1.shape;have k0:((P.length:Int) == 0)=true:=by rw[hn0];rfl
   have HE:=hid (HSAME.out (false,7) w1 (by decide) h1.2.2);clear E HP h1 hn0 HV hti hto HSAME;go_wp2_with fail;go_ret2;exact⟨rfl,HE.out⟩
 obtain⟨A,cap,rfl,hk,hrow⟩:=h1.read
 have HROW:=hid (show ∀W,Za (fun k=>k=qq∨k=r) w1 W->NdE.R W W.heap.size A P.length P from fun W ht=>by
  have ho:=h1.1.stays (w':=W) fun g hg=>ht.block g (h1.1.at_ g hg).2 (fun e=>by have:=(h1.1.at_ g hg).1;omega)
  exact(ho.read h1.2.1).2.2)
 have HB1:=hid h1.2.2;have HOK:=hid h1.2.1;obtain⟨n,hn⟩:∃n,n=P.length:=⟨_,rfl⟩
 rw[<-hn]at hn0 hP8 hk ⊢;have HN:=hid hn;have hn1:0<n:=Nat.pos_of_ne_zero hn0;have k0:((n:Int) == 0)=false:=by simp;omega
 have E1:=hid (fun(h:bb=false)=>E.out.2.1 (by rw[<-HN.out];exact hn0) h);have E2:=hid (fun(h:bb=true)=>E.out.2.2.1 (by rw[<-HN.out];exact hn0) h);have E3:=hid (fun(h:bb=true)=>E.out.2.2.2 (by rw[<-HN.out];exact hn0) h);clear E hn h1 hrow HP hn0;cases bb with
 | false=>
  obtain rfl:=E1.out rfl;have HE:=hid (HSAME.out (false,9) w1 (by decide) HB1.out);clear E1 E2 E3 HV HROW HOK HSAME hti
  cases hmx:decide (9007199254740992<m2)with
  | true=>
   clear hto;go_wp2_with fail;go_ret2;exact⟨rfl,HE.out⟩
  | false=>
   have hmn:=hto rfl hmx;clear hto;go_wp2_with fail;go_ret2;exact⟨rfl,HE.out⟩
 | true=>
 have F2:=hid (E2.out rfl);have F3:=hid (E3.out rfl);obtain⟨hmx,hmn⟩:=hti rfl;clear E1 E2 E3 hti hto;have H0:=hid (show ZpY w w1 w1 X x pp qq r a S N P p e q 0 from⟨HV.out w1 HB1.out,Za.refl _ _,fun x hx=>by rw[List.take_zero]at hx;cases hx⟩);go_wp2_with fail;clear hmx hmn hm1 hm2 hl1 hl2
 go_loopw[15,16] (fun uw iv wr=>∃j:Nat,j<=n/\iv=.int .i64 j/\uw=.bool (Zc3 (P.take j) p e q)/\Hid (ZpY w w1 wr X x pp qq r a S N P p e q j)) (fun _ iv _=>n-(intOf iv).toNat)
 case atStart=>exact⟨0,Nat.zero_le _,rfl,rfl,H0⟩
 case round=>
  clear H0;obtain⟨j,hj,rfl,rfl,HJ⟩:=hrel;by_cases hlt:j<n
  · have hlt':(j:Int)<(n:Int):=by omega
    have hj0:(0:Int)<=(j:Int):=by omega
    obtain⟨hrs,htw,hal⟩:=HJ.out;obtain⟨z,hz⟩:∃z,P[j]?=some z:=⟨_,List.getElem?_eq_getElem (by rw[<-HN.out];exact hlt)⟩
    have hzok:=HOK.out z (List.mem_of_getElem? hz);obtain⟨b,off,rfl,hb,hat⟩:=Zqy (HROW.out wr htw) hz;obtain⟨c0,c1,c2,c3,c4,c5,c6,c7,c8,c9,c10,c11⟩:=ZqU hat;obtain⟨wb,hwb⟩:∃wb,wb=wr.alloc (.cells #[.int .i64 z.y,.int .i64 z.i,.int .i64 z.p,.int .i64 z.f,.int .i64 z.o,.bool z.ab,.int .i64 z.li,.int .i64 z.pr,.int .i64 z.en,.int .i64 z.ex,.int .i64 z.la,.int .i64 z.ca] 40 (0,0)):=⟨_,rfl⟩
    have hbb:Below wr.heap.size wr wb:=by rw[hwb];exact(Below.refl _ _).alloc (Nat.le_refl _) _
    have hblk:wb.heap[wr.heap.size]?=some (.cells #[.int .i64 z.y,.int .i64 z.i,.int .i64 z.p,.int .i64 z.f,.int .i64 z.o,.bool z.ab,.int .i64 z.li,.int .i64 z.pr,.int .i64 z.en,.int .i64 z.ex,.int .i64 z.la,.int .i64 z.ca] 40 (0,0)):=by rw[hwb];exact heap_alloc_new wr _
    have hsz:wb.heap.size=wr.heap.size+1:=by rw[hwb];simp
    have HAL:=hid (fun W=>ZjL z (wrap64 (wrap64 (p+e)+q)) W);have HF:=hid (fun n W=>ZoF n W);have HWS:=hid (Zf5 hz p e q);have HTA:=hid (fun h0=>Zk1 (Q:=fun z=>(chkN z p e q).2=0) hz hal h0);have HEE:=hid (fun h0=>F3.out j z hz hal h0);have HFS:=hid (Zf6 hz p e q S);have HZ:=hid (And.intro hzok (Zg0 hzok p e q));have hWB:Za (fun k=>k=qq∨k=r) w wb:=(Za.of_below (F:=fun k=>k=qq∨k=r) HB1.out).trans (htw.trans (Za.of_below hbb))
    have HBAD:=hid (show ∀(v:Int) W,v≠0->Below wb.heap.size wb W->∃T,ZP W X x pp qq r a T (N+8)/\Zv T (N+8)/\T.W=S.W/\Za (fun k=>k=qq∨k=r) w W from fun v W h0 hW=>
     ⟨_,(hrs.below (hbb.trans (hW.mono hbb.size))).more (by omega),((Zck (S:=S) ((P.take j).map fun x=>growN x p e q) HM.out).more (by rw[List.length_map,List.length_take];omega)),Zfr _ _,hWB.trans (Za.of_below hW)⟩)
    have HPT:=hid (show ∀W,Below wr.heap.size wr W->ZP W X x pp qq r a (((P.take j).map fun x=>growN x p e q).foldl VS.putN S) (N+j)/\Za (fun k=>k=qq∨k=r) w1 W from fun W hW=>⟨hrs.below hW,htw.trans (Za.of_below hW)⟩);have HBB:=hid hbb;have HBL:=hid (show ∀W,Below wb.heap.size wb W->W.heap[wr.heap.size]?=some (.cells #[.int .i64 z.y,.int .i64 z.i,.int .i64 z.p,.int .i64 z.f,.int .i64 z.o,.bool z.ab,.int .i64 z.li,.int .i64 z.pr,.int .i64 z.en,.int .i64 z.ex,.int .i64 z.la,.int .i64 z.ca] 40 (0,0))from fun W hW=>(hW.block _ (by omega)).trans hblk);obtain⟨ck,hck⟩:∃ck,ck=chkN z p e q:=⟨_,rfl⟩
    have hckE:ck=if(okF z.pr&&(okF z.en&&(okF z.ex&&true)))=false∨(okF (wrap64 (z.pr+p))&&(okF (wrap64 (z.en+e))&&(okF (wrap64 (z.ex+q))&&true)))=false then(false,9)else if(allowsN z (wrap64 (wrap64 (p+e)+q))).1=true then((allowsN z (wrap64 (wrap64 (p+e)+q))).2,0)else(false,11):=hck
    rw[<-hck]at HWS HTA HEE;obtain⟨ck1,ck2⟩:=ck;simp only at HTA HEE;have HWS':=HWS.out;have HWS:=hid HWS';clear HWS';have HCK:=hid hckE;have HG:=hid (show growN z p e q=⟨z.y,z.i,z.p,z.f,z.o,z.ab,z.li,wrap64 (z.pr+p),wrap64 (z.en+e),wrap64 (z.ex+q),z.la,z.ca⟩ from rfl);obtain⟨bw,hbw⟩:∃bw,bw=Zc3 (P.take j) p e q:=⟨_,rfl⟩
    rw[<-hbw]at HWS ⊢;have hb0:=Below.refl wb.heap.size wb;clear hck hckE hbw hal hz hzok HJ hblk hsz hrs htw hat hb hWB;generalize hG:growN z p e q=G at HFS HZ HG;clear hG;generalize allowsN z (wrap64 (wrap64 (p+e)+q))=al at HAL HCK;obtain⟨al1,al2⟩:=al;obtain⟨zy,zi,zp,zf,zo,zab,zli,zpr,zen,zex,zla,zca⟩:=z;simp only at HAL HCK HG hwb HBL c0 c1 c2 c3 c4 c5 c6 c7 c8 c9 c10 c11 ⊢;have d7:IntKind.i64.wrap (zpr+p)=wrap64 (zpr+p):=Zb7 _;have d8:IntKind.i64.wrap (zen+e)=wrap64 (zen+e):=Zb7 _;have d9:IntKind.i64.wrap (zex+q)=wrap64 (zex+q):=Zb7 _;generalize wrap64 (zpr+p)=g7 at HCK HG d7;generalize wrap64 (zen+e)=g8 at HCK HG d8;generalize wrap64 (zex+q)=g9 at HCK HG d9;go_wp2_with fail;rw[<-hwb];clear hwb c0 c1 c2 c3 c4 c5 c6 c7 c8 c9 c10 c11;obtain⟨z0,z1,z2,z3,z4,z5,z6,z7,z8,z9,z10,z11⟩:=Zq (HBL.out wb hb0);refine(HF.out _ _).mono ?_;rintro u w'⟨rfl,rfl⟩;obtain⟨t0,ht0⟩:∃t,t=okF zpr:=⟨_,rfl⟩
    have HCKn:=HCK.out;rw[<-ht0]at HCKn ⊢;have HCK:=hid HCKn;clear HCKn ht0;cases t0 with
    | false=>
     have hc:((ck1,ck2):Bool×Int)=(false,9):=by rw[HCK.out,if_pos (.inl (by rfl))]
     injection hc with hc1 hc2;subst hc1 hc2;obtain rfl:=HEE.out (by decide);have HE:=hid (HBAD.out 9 wb (by decide) hb0);clear HCK HEE HTA HWS HBAD HPT HBB;go_wp2_with fail;go_ret2;exact⟨rfl,HE.out⟩
    | true=>
    go_wp2_with fail;refine(HF.out _ _).mono ?_;rintro u w'⟨rfl,rfl⟩;obtain⟨t1,ht1⟩:∃t,t=okF zen:=⟨_,rfl⟩
    have HCKn:=HCK.out;rw[<-ht1]at HCKn ⊢;have HCK:=hid HCKn;clear HCKn ht1;cases t1 with
    | false=>
     have hc:((ck1,ck2):Bool×Int)=(false,9):=by rw[HCK.out,if_pos (.inl (by rfl))]
     injection hc with hc1 hc2;subst hc1 hc2;obtain rfl:=HEE.out (by decide);have HE:=hid (HBAD.out 9 wb (by decide) hb0);clear HCK HEE HTA HWS HBAD HPT HBB;go_wp2_with fail;go_ret2;exact⟨rfl,HE.out⟩
    | true=>
    go_wp2_with fail;refine(HF.out _ _).mono ?_;rintro u w'⟨rfl,rfl⟩;obtain⟨t2,ht2⟩:∃t,t=okF zex:=⟨_,rfl⟩
    have HCKn:=HCK.out;rw[<-ht2]at HCKn ⊢;have HCK:=hid HCKn;clear HCKn ht2;cases t2 with
    | false=>
     have hc:((ck1,ck2):Bool×Int)=(false,9):=by rw[HCK.out,if_pos (.inl (by rfl))]
     injection hc with hc1 hc2;subst hc1 hc2;obtain rfl:=HEE.out (by decide);have HE:=hid (HBAD.out 9 wb (by decide) hb0);clear HCK HEE HTA HWS HBAD HPT HBB;go_wp2_with fail;go_ret2;exact⟨rfl,HE.out⟩
    | true=>
    go_wp2_with fail;refine(HF.out _ _).mono ?_;rintro u w'⟨rfl,rfl⟩;obtain⟨t3,ht3⟩:∃t,t=okF g7:=⟨_,rfl⟩
    have HCKn:=HCK.out;rw[<-ht3]at HCKn ⊢;have HCK:=hid HCKn;clear HCKn ht3;cases t3 with
    | false=>
     have hc:((ck1,ck2):Bool×Int)=(false,9):=by rw[HCK.out,if_pos (.inr (by rfl))]
     injection hc with hc1 hc2;subst hc1 hc2;obtain rfl:=HEE.out (by decide);have HE:=hid (HBAD.out 9 wb (by decide) hb0);clear HCK HEE HTA HWS HBAD HPT HBB;go_wp2_with fail;go_ret2;exact⟨rfl,HE.out⟩
    | true=>
    go_wp2_with fail;refine(HF.out _ _).mono ?_;rintro u w'⟨rfl,rfl⟩;obtain⟨t4,ht4⟩:∃t,t=okF g8:=⟨_,rfl⟩
    have HCKn:=HCK.out;rw[<-ht4]at HCKn ⊢;have HCK:=hid HCKn;clear HCKn ht4;cases t4 with
    | false=>
     have hc:((ck1,ck2):Bool×Int)=(false,9):=by rw[HCK.out,if_pos (.inr (by rfl))]
     injection hc with hc1 hc2;subst hc1 hc2;obtain rfl:=HEE.out (by decide);have HE:=hid (HBAD.out 9 wb (by decide) hb0);clear HCK HEE HTA HWS HBAD HPT HBB;go_wp2_with fail;go_ret2;exact⟨rfl,HE.out⟩
    | true=>
    go_wp2_with fail;refine(HF.out _ _).mono ?_;rintro u w'⟨rfl,rfl⟩;obtain⟨t5,ht5⟩:∃t,t=okF g9:=⟨_,rfl⟩
    have HCKn:=HCK.out;rw[<-ht5]at HCKn ⊢;have HCK:=hid HCKn;clear HCKn ht5;cases t5 with
    | false=>
     have hc:((ck1,ck2):Bool×Int)=(false,9):=by rw[HCK.out,if_pos (.inr (by rfl))]
     injection hc with hc1 hc2;subst hc1 hc2;obtain rfl:=HEE.out (by decide);have HE:=hid (HBAD.out 9 wb (by decide) hb0);clear HCK HEE HTA HWS HBAD HPT HBB;go_wp2_with fail;go_ret2;exact⟨rfl,HE.out⟩
    | true=>
    go_wp2_with fail;refine(HAL.out _).mono ?_;rintro u w5⟨rfl,hb5⟩;have HCKn:=HCK.out;rw[if_neg (by rintro(q|q) <;> cases q)]at HCKn;have HCK:=hid HCKn;clear HCKn z0 z1 z2 z3 z4 z5 z6 z7 z8 z9 z10 z11;have hblk5:=HBL.out w5 hb5;obtain⟨z0,z1,z2,z3,z4,z5,z6,z7,z8,z9,z10,z11⟩:=Zq hblk5;have HB5:=hid hb5;cases al1 with
    | false=>
     have hc:((ck1,ck2):Bool×Int)=(false,11):=by rw[HCK.out,if_neg (by decide)]
     injection hc with hc1 hc2;subst hc1 hc2;obtain rfl:=HEE.out (by decide);have HE:=hid (HBAD.out 11 w5 (by decide) hb5);clear HCK HEE HTA HWS HBAD HPT HBB hb5 hblk5;go_wp2_with fail;go_ret2;exact⟨rfl,HE.out⟩
    | true=>
    have hc:((ck1,ck2):Bool×Int)=(al2,0):=by rw[HCK.out,if_pos (by rfl)]
    injection hc with hc1 hc2;subst hc1 hc2;have HTA':=hid (HTA.out rfl);have hs5:wr.heap.size<w5.heap.size:=(Array.getElem?_eq_some_iff.1 hblk5).1;have f7:w5.frozen? ⟨wr.heap.size,7,none⟩=false:=by simp[World.frozen?,hblk5]
    have f8:w5.frozen? ⟨wr.heap.size,8,none⟩=false:=by simp[World.frozen?,hblk5]
    have f9:w5.frozen? ⟨wr.heap.size,9,none⟩=false:=by simp[World.frozen?,hblk5]
    obtain⟨w6,hw6⟩:∃w6,w6=((w5.setCell ⟨wr.heap.size,7,none⟩ (.int .i64 g7)).setCell ⟨wr.heap.size,8,none⟩ (.int .i64 g8)).setCell ⟨wr.heap.size,9,none⟩ (.int .i64 g9):=⟨_,rfl⟩
    have hb6:Below wr.heap.size wr w6:=by
     rw[hw6];exact Zd (Zd (Zd (HBB.out.trans (hb5.mono HBB.out.size)) (Nat.le_refl _) 7 _) (Nat.le_refl _) 8 _) (Nat.le_refl _) 9 _
    obtain⟨hp1,hp2⟩:=HPT.out w6 hb6
    have HPUT:=hid (show Calls prog 46 #[.pointer (some ⟨x,0,none⟩),.agg #[.int .i64 zy,.int .i64 zi,.int .i64 zp,.int .i64 zf,.int .i64 zo,.bool zab,.int .i64 zli,.int .i64 g7,.int .i64 g8,.int .i64 g9,.int .i64 zla,.int .i64 zca]] w6 fun u w'=>u=.returned (.int .i64 0)/\ZpY w w1 w' X x pp qq r a S N P p e q (j+1)from by
     have hgk:=HZ.out.2;have hfs:=HFS.out;rw[HG.out]at hgk hfs;refine(Zh7 hp1 (by omega) _ hgk).mono ?_;rintro u w7⟨rfl,h7,t7⟩;refine⟨rfl,?_,hp2.trans t7,HTA'.out⟩;rw[hfs]
     exact h7)
    clear hp1 hp2 hb6 hb5 hblk5 HPT HBB HBAD HTA HTA' HEE HFS HG HZ HCK HB5;cases bw with
    | true=>
     rw[Bool.true_or]at HWS;go_wp2_with fail;rw[<-hw6];clear hw6 z0 z1 z2 z3 z4 z5 z6 z7 z8 z9 z10 z11 f7 f8 f9;refine HPUT.out.mono ?_;rintro u w7⟨rfl,h7⟩;have HJ:=hid h7;clear h7 HPUT;go_wp2_with fail;go_roundw
     case rel=>exact⟨j+1,by omega,by go_num,by rw[HWS.out],HJ⟩
     case measure=>simp[intOf];omega
    | false=>
     rw[Bool.false_or]at HWS;go_wp2_with fail;rw[<-hw6];clear hw6 z0 z1 z2 z3 z4 z5 z6 z7 z8 z9 z10 z11 f7 f8 f9;refine HPUT.out.mono ?_;rintro u w7⟨rfl,h7⟩;have HJ:=hid h7;clear h7 HPUT;go_wp2_with fail;go_roundw
     case rel=>exact⟨j+1,by omega,by go_num,by rw[HWS.out],HJ⟩
     case measure=>simp[intOf];omega
  · obtain rfl:j=n:=by omega
    have hall:P.take j=P:=by rw[List.take_of_length_le (by rw[HN.out];exact Nat.le_refl _)]
    obtain⟨hrs,htw,hal⟩:=HJ.out;rw[hall]at hrs hal ⊢;have e:=F2.out hal;subst e;obtain⟨T,hT⟩:∃T,T=(P.map fun x=>growN x p e q).foldl VS.putN S:=⟨_,rfl⟩
    have hTm:Zv T (N+8):=by rw[hT];exact((Zck (S:=S) (P.map fun x=>growN x p e q) HM.out).more (by rw[List.length_map];have:=HN.out;omega))
    have hTW:T.W=S.W:=by rw[hT];exact Zfr _ _
    rw[<-hT]at hrs
    have HE:=hid (show ZP wr X x pp qq r a T (N+8)/\Zv T (N+8)/\T.W=S.W/\Za (fun k=>k=qq∨k=r) w wr from
     ⟨hrs.more (by omega),hTm,hTW,(Za.of_below (F:=fun k=>k=qq∨k=r) HB1.out).trans htw⟩)
    have HT:=hid hT;clear hT hTm hTW;clear hrs htw hal HJ;obtain⟨bw,hbw⟩:∃bw,bw=Zc3 P p e q:=⟨_,rfl⟩
    rw[<-hbw];have HBW:=hid hbw;clear hbw;go_wp2_with fail;go_ret2;have hT:=HT.out;subst hT;exact⟨by have h:=HBW.out;subst h;rfl,HE.out⟩
end
end Go.Proofs.YtiknkbpojmgbhaaGreat
