/- DoL33, LawP33, LawA33, EncG, EncH, EncI. Conditions: in each theorem. -/
import Derived.Test.YtiknkbpojmgbhaaGreatPreD
import Derived.Test.YtiknkbpojmgbhaaGreatTreP
import Derived.Test.YtiknkbpojmgbhaaGreatRecA
import Derived.StillTailTactics
import Derived.Test.YtiknkbpojmgbhaaGreatDuo
import Derived.Test.YtiknkbpojmgbhaaGreatPreO
import Derived.Test.YtiknkbpojmgbhaaGreatCtlR
import Derived.Test.YtiknkbpojmgbhaaGreatExpF
import Derived.Test.YtiknkbpojmgbhaaGreatBalB
import Derived.Test.YtiknkbpojmgbhaaGreatEncF
import Derived.Test.YtiknkbpojmgbhaaGreatPreG
set_option maxHeartbeats 25600000
set_option maxRecDepth 100000
set_option linter.unusedVariables false
open Go.Proofs.Tryz
open Go.Lib (hid)
namespace Go.Proofs.YtiknkbpojmgbhaaGreat
open Go.RowKit Go.Maps
structure ZfN where
 y:Int
 f:Int
 a:Option Addr
 n:Nat
 c:Nat
def ZoP(k:ZfN):List Value:=[.int .i64 k.y,.int .i64 k.f,.slice k.a k.n k.c]
def Zp5(w:World):Enc ZfN:=⟨ZoP,3,fun k=>ZbL [k.y,k.f]/\k.n<=k.c/\k.c<=maxLen/\∃ls,RL w w.heap.size k.a k.n ls,fun _=>rfl,by decide,fun x u hu=>by
 unfold ZoP at hu;simp only[List.mem_cons,List.not_mem_nil,or_false]at hu
 rcases hu with rfl|rfl|rfl <;> rfl⟩
abbrev Dos33E.R(w:World)(B:Nat)(A:Option Addr)(n:Nat)(hs:List ZfN):Prop:=(Zp5 w).R w B A n hs
theorem ZlK:prog.cellsOf 55=3:=by kernel_rfl
theorem ZjS:prog.cellsOf 35=1:=by kernel_rfl
open Go.ChangeShapes Go.WideShapes in
theorem Zna{H:Type}{enc:TypeId×Value->H}{w:World}{fuel:Nat}{cs:List Value}{x:DataW H×List MemPlace}(h:DataW.trod enc prog w 0 (fun _=>true) true fuel 55 cs=some x)(hcl:cs.length=3) :
 ∃k:ZfN,(Zp5 w).ok k/\cs=ZoP k:=by
 obtain⟨fs,hfs⟩:∃fs,prog.underlying 55=some (.struct fs):=⟨_,underlying55⟩
 obtain⟨ys,n',hn',hy,hlen,hyl,hf⟩:=DataW.trod_struct underlying55 h
 match cs,hcl with
 | [c0,c1,c2],_=>
  match ys,hyl with
  | [y0,y1,y2],_=>
   have f0:DataW.trod enc prog w 0 (fun _=>true) true n' 3 (([c0,c1,c2].drop 0).take (prog.cellsOf 3)) = [y0,y1,y2][0]?:=hf 0 _ rfl;rw[ZbY]at f0;have f1:DataW.trod enc prog w 0 (fun _=>true) true n' 3 (([c0,c1,c2].drop 1).take (prog.cellsOf 3)) = [y0,y1,y2][1]?:=hf 1 _ rfl;rw[ZbY]at f1;have f2:DataW.trod enc prog w 0 (fun _=>true) true n' 35 (([c0,c1,c2].drop 2).take (prog.cellsOf 35)) = [y0,y1,y2][2]?:=hf 2 _ rfl;rw[ZjS]at f2;simp only[List.drop_zero,List.take_succ_cons,List.take_zero,List.drop_succ_cons,List.getElem?_cons_zero,List.getElem?_cons_succ]at f0 f1 f2;obtain⟨n0,e0,_,w0⟩:=DataW.trod_int underlying3 f0;obtain⟨n1,e1,_,w1⟩:=DataW.trod_int underlying3 f1;simp only[List.cons.injEq,and_true]at e0 e1;subst e0 e1
   have hin:ZbL [n0,n1]:=by
    intro v hv;simp only[List.mem_cons,List.not_mem_nil,or_false]at hv;rcases hv with rfl|rfl
    · exact Z2 w0
    · exact Z2 w1
   rcases open_lines f2 with e4|⟨a,len,cap,ls,e4,h1,h2,h3⟩
   · simp only[List.cons.injEq,and_true]at e4;subst e4;exact⟨⟨n0,n1,none,0,0⟩,⟨hin,Nat.le_refl _,Nat.zero_le _,⟨[],RL.nil_⟩⟩,rfl⟩
   · simp only[List.cons.injEq,and_true]at e4;subst e4;exact⟨⟨n0,n1,some a,len,cap⟩,⟨hin,h1,h2,⟨ls,h3⟩⟩,rfl⟩
theorem open_dos33{H:Type}{enc:TypeId×Value->H}{w:World}{fuel:Nat}{cs:List Value}{x:DataW H×List MemPlace}(h:DataW.trod enc prog w 0 (fun _=>true) true fuel 52 cs=some x) :
 cs = [.slice none 0 0]∨∃(a:Addr) (len cap:Nat) (ls:List ZfN),cs = [.slice (some a) len cap]/\len<=cap/\cap<=maxLen/\Dos33E.R w w.heap.size (some a) len ls:=
 Enc.open_rows (E:=Zp5 w) (⟨0,0,none,0,0⟩:ZfN) underlying52 ZlK (fun n ys y hy hl=>by
  obtain⟨k,hk,e⟩:=Zna hy hl
  exact⟨k,hk,e⟩) h
theorem Zg4{w w':World}{A:Option Addr}{n:Nat}{l:List ZfN}(h:Dos33E.R w w.heap.size A n l)(hb:Below w.heap.size w w'){j:Nat}{k:ZfN}(hx:l[j]?=some k):∃b off,A=some ⟨b,off,none⟩/\b<w.heap.size/\(w'.cell? ⟨b,off+j*3,none⟩=some (.int .i64 k.y)/\w'.cell? ⟨b,off+j*3+1,none⟩=some (.int .i64 k.f)/\w'.cell? ⟨b,off+j*3+2,none⟩=some (.slice k.a k.n k.c))/\ZbL [k.y,k.f]/\k.n<=k.c/\k.c<=maxLen/\∃ls,RL w' w.heap.size k.a k.n ls:=by
 obtain⟨h1,h3,h4,⟨ls,h5⟩⟩:=h.ok k (List.mem_of_getElem? hx);have hj:=(List.getElem?_eq_some_iff.1 hx).1;obtain⟨b,off,rfl,hlt,hc⟩:=h.2.2 (by rw[<-h.len];omega);have hz:∀z,z<3->w'.cell? ⟨b,off+j*3+z,none⟩=(ZoP k)[z]?:=fun z hz=>(hb.cell (p:=⟨b,off+j*3+z,none⟩) hlt).trans (hc j k hx z hz)
 exact⟨b,off,rfl,hlt,⟨hz 0 (by decide),hz 1 (by decide),hz 2 (by decide)⟩,h1,h3,h4,⟨ls,h5.below hb⟩⟩
def few33B(n:Nat)(l:List ZfN):Bool:=!(decide (20<n)) && !(decide (20<l.length))&&l.all fun k=>!(decide (20<k.n))
theorem Zg5{n:Nat}{l:List ZfN}(h:few33B n l=true):n<=20/\l.length<=20/\∀k∈l,k.n<=20:=by
 unfold few33B at h;simp only[Bool.and_eq_true,Bool.not_eq_true',decide_eq_false_iff_not,List.all_eq_true]at h;exact⟨by omega,by omega,fun k hk=>by have:=h.2 k hk;omega⟩
theorem Ze6{w:World}{A A':Option Addr}{n cap n' cap':Nat}{l:List ZfN}(hn:n<=maxLen)(hr:∃w0:World,w0.heap.size<=w.heap.size/\Below w0.heap.size w0 w/\Dos33E.R w0 w0.heap.size A' n' l)(hn':n'<=maxLen) :
 Calls prog 18 #[.slice A n cap,.slice A' n' cap'] w fun e w'=>e=.returned (.bool (few33B n l))/\Below w.heap.size w w':=by
 obtain⟨w0,hw0,hb0,hr⟩:=hr;unfold maxLen at hn hn';have hlen:=hr.len;have HR:=hid hr;have HB0:=hid hb0;have hfew:few33B n l=(!(decide (20<n)) && !(decide (20<n'))&&l.all fun k=>!(decide (20<k.n))):=by unfold few33B;rw[hlen]
 have HLEN:=hid hlen;rw[hfew];clear hr hb0 hfew hlen;by_cases h1:20<n
 · have k1:decide ((n:Int)>20)=true:=decide_eq_true (by omega);rw[decide_eq_true h1,Bool.not_true,Bool.false_and,Bool.false_and];clear h1;go_enter func18,ntmps18;go_wp2_with fail;go_ret;exact⟨rfl,Below.refl _ _⟩
 · have k1:decide ((n:Int)>20)=false:=decide_eq_false (by omega);rw[decide_eq_false h1,Bool.not_false,Bool.true_and];clear h1;by_cases h2:20<n'
   · have k2:decide ((n':Int)>20)=true:=decide_eq_true (by omega);rw[decide_eq_true h2,Bool.not_true,Bool.false_and];clear h2;go_enter func18,ntmps18;go_wp2_with fail;go_ret;exact⟨rfl,Below.refl _ _⟩
   · have k2:decide ((n':Int)>20)=false:=decide_eq_false (by omega);rw[decide_eq_false h2,Bool.not_false,Bool.true_and];clear h2;have E1:=hid (fun(k:ZfN) (hk:k∈l) (h:20<k.n)=>show(l.all fun k=>!(decide (20<k.n)))=false from List.all_eq_false.2 ⟨k,hk,by rw[decide_eq_true h];decide⟩)
     have E2:=hid (fun(h:∀(m:Nat) (z:ZfN),m<l.length->l[m]?=some z->¬20<z.n)=>show(l.all fun k=>!(decide (20<k.n)))=true from List.all_eq_true.2 fun k hk=>by
      obtain⟨m,hm,rfl⟩:=List.getElem_of_mem hk;rw[decide_eq_false (h m _ hm (List.getElem?_eq_getElem hm))]
      rfl)
     generalize (l.all fun k=>!(decide (20<k.n)))=bb at E1 E2 ⊢;go_enter func18,ntmps18;go_wp2_with fail
     go_loopw[17] (fun i wr=>∃j:Nat,j<=n'/\i=.int .i64 j/\Hid (∀(m:Nat) (z:ZfN),m<j->l[m]?=some z->¬20<z.n)/\Hid (Below w.heap.size w wr)) (fun i _=>n'-(intOf i).toNat)
     case atStart=>exact⟨0,Nat.zero_le _,rfl,hid (fun m y hm=>absurd hm (by omega)),hid (Below.refl _ _)⟩
     case round=>
      obtain⟨j,hj,rfl,hbef,hbw⟩:=hrel;by_cases hlt:j<n'
      · have hlt':(j:Int)<(n':Int):=by omega
        obtain⟨k,hk⟩:∃k,l[j]?=some k:=⟨_,List.getElem?_eq_getElem (by rw[HLEN.out];exact hlt)⟩
        obtain⟨b,off,rfl,hb,⟨c0,c1,c2⟩,_,_,h4,_⟩:=Zg4 HR.out (HB0.out.trans (hbw.out.mono hw0)) hk;have HX:=hid (show Below w.heap.size w (wr.alloc (.cells #[.int .i64 k.y,.int .i64 k.f,.slice k.a k.n k.c] 55 (0,0)))from hbw.out.alloc hbw.out.size _);unfold maxLen at h4;by_cases hbig:20<k.n
        · have k3:decide ((k.n:Int)>20)=true:=decide_eq_true (by omega);obtain rfl:=E1.out k (List.mem_of_getElem? hk) hbig;clear hk hb h4 hbig;go_wp2_with fail;go_ret;exact⟨rfl,HX.out⟩
        · have k3:decide ((k.n:Int)>20)=false:=decide_eq_false (by omega)
          have hn:=hid (fun(m:Nat) (z:ZfN) (hm:m<j+1)=>show l[m]?=some z->¬20<z.n by
           intro hz;rcases Nat.lt_or_ge m j with h|h
           · exact hbef.out m z h hz
           · obtain rfl:m=j:=by omega
             rw[hk]at hz;cases hz
             exact hbig)
          clear hk hb h4 hbig;go_wp2_with fail;go_roundw
          case rel=>exact⟨j+1,by omega,by go_num,hn,HX⟩
          case measure=>simp[intOf];omega
      · obtain rfl:j=n':=by omega
        obtain rfl:=E2.out (fun m z hm=>hbef.out m z (by rw[HLEN.out]at hm;exact hm));go_wp2_with fail;go_ret;exact⟨rfl,hbw.out⟩
section
variable{w w' w0:World}{v m c x B N:Nat}{Y Z:Nat->Prop}{S T:VS}
theorem Zik(h:Duo Y w0 B N v m c x S T w)(hB:B<=w.heap.size)(hN:N<=32767)(e:Int)(he:e=0->T=S) :
 Calls prog 22 #[.pointer (some ⟨v,0,none⟩),.pointer (some ⟨x,0,none⟩),.int .i64 e] w fun u w'=>u=.returned (.bool true)/\(∃U,(e=0->U=S.commit)/\(e≠0->U=S.abort)/\Duo Y w0 B N v m c x U U w')/\ZbP Y B w w':=by
 by_cases h0:e=0
 · have hTS:=he h0;subst hTS h0;have HC:=hid (h.commit hB hN);have HB:=hid hB;clear h hB he;go_enter func22,ntmps22;go_wp2_with fail;refine HC.out.mono ?_;rintro u w1⟨rfl,hc⟩;have HC1:=hid hc;clear hc HC;go_wp2_with fail;refine HC1.out.mono ?_;rintro u w2⟨rfl,h2,k2⟩;have HS:=hid (h2.same hN)
   have HE:=hid (show ∀W,Below w2.heap.size w2 W->(∃U,((0:Int)=0->U=T.commit)/\((0:Int)≠0->U=T.abort)/\Duo Y w0 B N v m c x U U W)/\ZbP Y B w W from fun W hW=>
    ⟨⟨_,fun _=>rfl,fun h=>absurd rfl h,h2.below (Nat.le_trans HB.out k2.size) hW⟩,k2.trans (ZbP.of_below h2.old (Nat.le_trans HB.out k2.size) hW)⟩)
   clear h2 k2 HC1;go_wp2_with fail;refine HS.out.mono ?_;rintro u w3⟨rfl,h3⟩;have HE3:=hid (HE.out w3 h3);clear h3 HE HS;go_wp2_with fail;go_ret;exact⟨rfl,HE3.out⟩
 · have k1:(e == 0)=false:=by simp[h0]
   have HC:=hid (h.abort hB);have HB:=hid hB;have H0:=hid h0;clear h hB he h0;go_enter func22,ntmps22;go_wp2_with fail;refine HC.out.mono ?_;rintro u w1⟨rfl,hc⟩;have HC1:=hid hc;clear hc HC;go_wp2_with fail;refine HC1.out.mono ?_;rintro u w2⟨rfl,h2,k2⟩;have HS:=hid (h2.same hN)
   have HE:=hid (show ∀W,Below w2.heap.size w2 W->(∃U,(e=0->U=S.commit)/\(e≠0->U=S.abort)/\Duo Y w0 B N v m c x U U W)/\ZbP Y B w W from fun W hW=>
    ⟨⟨_,fun h=>absurd h H0.out,fun _=>rfl,h2.below (Nat.le_trans HB.out k2.size) hW⟩,k2.trans (ZbP.of_below h2.old (Nat.le_trans HB.out k2.size) hW)⟩)
   clear h2 k2 HC1;go_wp2_with fail;refine HS.out.mono ?_;rintro u w3⟨rfl,h3⟩;have HE3:=hid (HE.out w3 h3);clear h3 HE HS;go_wp2_with fail;go_ret;exact⟨rfl,HE3.out⟩
theorem ZjT{X:Nat->Prop}{p q r:Nat}{a:TL}(h:ZP w X x p q r a S N)(hN:N<=1000000000)(n:Int)(hn:ZS n) :
 Calls prog 44 #[.pointer (some ⟨x,0,none⟩),.int .i64 n] w fun e w'=>e=.returned (.int .i64 (ZdH (S.now (ZbO n)) n))/\ZP w' X x p q r a (S.open_ n) (N+1)/\Za (fun k=>k=q∨k=r) w w':=by
 obtain⟨b,d,h1,h2,h3,h4⟩:=h
 have:=ZlD h1 (Nat.le_trans h3 (by omega)) (Nat.le_trans h4 (by omega)) n hn
 rw[h2.now]at this;refine this.mono ?_;rintro e w'⟨rfl,h5,h6⟩;refine⟨rfl,?_,h6⟩;unfold VS.open_;by_cases e0:ZdH (S.now (ZbO n)) n=0
 · rw[if_pos e0,if_pos e0]at h5;rw[if_pos e0];exact⟨_,_,h5,h2.put _ _,Nat.le_trans (ZL _ _ _) (Nat.succ_le_succ h3),Nat.le_trans (ZL _ _ _) (Nat.succ_le_succ h4)⟩
 · rw[if_neg e0,if_neg e0]at h5;rw[if_neg e0];exact⟨_,_,h5,h2,Nat.le_succ_of_le h3,Nat.le_succ_of_le h4⟩
def ZqA(w w':World)(S:VS)(N:Nat)(u:Ending):Prop:=
 ∃v m c x,u=.returned (.tuple #[.pointer (some ⟨v,0,none⟩),.pointer (some ⟨x,0,none⟩)])/\Duo (fun _=>False) w w.heap.size N v m c x S S w'
theorem Zc5{w:World}{A:Option Addr}{n cap:Nat}{l:List Nd}(hr:NdE.R w w.heap.size A n l)(hn:n<=1000) :
 Calls prog 20 #[.slice A n cap] w fun u w'=>ZqA w w' (Zau l) (2+2*n) u:=by
 have HR:=hid hr;have HN:=hid (ZpA w (fun _=>False) (fun k h=>h.elim));have HM:=hid (fun W=>Zmm W);clear hr;go_enter func20,ntmps20;go_wp2_with fail;refine HN.out.mono ?_;rintro u w1⟨v,m,c,rfl,h1,hb1,hv,hm,hc⟩;have HM1:=hid (HM.out w1);have H1:=hid (And.intro h1 (And.intro hb1 (And.intro hv (And.intro hm hc))));clear h1 hb1 hv hm hc HN HM;go_wp2_with fail;refine HM1.out.mono ?_;rintro u w2⟨rfl,h2,hb2⟩;obtain⟨x,hx⟩:∃x,x=w1.heap.size+3:=⟨_,rfl⟩
 rw[<-hx]at h2 ⊢;obtain⟨h1,hb1,hv,hm,hc⟩:=H1.out;have hd2:=Zm7 h1 h2 hb2 hv hm hc hb1.size;have hbw:=hb1.trans (hb2.mono hb1.size)
 have hD:Duo (fun _=>False) w w.heap.size 0 v m c x ⟨[],[]⟩ ⟨[],[]⟩ w2:=by
  obtain⟨X,p,q,r,a,z1,z2,z3,z4,z5,z6,z7,z8,z9⟩:=hd2;exact⟨X,p,q,r,a,z1,z2,z3,z4,z5,z6,z7,z8,hbw⟩
 have HO:=hid (hD.view (M:=1) (S':=Zkk) (P:=fun e _=>e=.returned (.int .i64 (ZdH ((⟨[],[]⟩:VS).now (ZbO 2020)) 2020))) hbw.size (fun _=>ZdX) rfl (by omega) (fun X hX hmx _=>(Zot hX 2020 (by omega) (by show 0<maxLen;unfold maxLen;omega)).mono fun e w' ⟨a,b,c⟩=>⟨a,by rw[Zlp]at b;exact b,c⟩));rw[ZgA]at HO;have HBW:=hid hbw.size;clear h1 hb1 hv hm hc hd2 hbw hD h2 hb2 hx H1 HM1;go_wp2_with fail;refine HO.out.mono ?_;rintro u w3⟨rfl,h3,k3⟩;have HO2:=hid (h3.ref (M:=2) (P:=fun e _ T'=>e=.returned (.int .i64 0)/\T'=Zkk) (Nat.le_trans HBW.out k3.size) (by omega) (fun X p q r a hX hmx hB=>(ZjT hX (by omega) 2020 (by unfold ZS;omega)).mono fun e w' ⟨a,b,c⟩=>⟨Zkk,⟨by rw[a,ZgA],rfl⟩,by rw[Zlp]at b;exact b,ZdX.more (by omega),rfl,c⟩));have HK3:=hid (Nat.le_trans HBW.out k3.size);clear h3 k3 HO HBW;go_wp2_with fail;refine HO2.out.mono ?_;rintro u w4⟨T',⟨rfl,rfl⟩,h4,k4⟩;have H0:=hid (show Duo (fun _=>False) w w.heap.size (2+2*0) v m c x (Zau (l.take 0)) (Zau (l.take 0)) w4/\w.heap.size<=w4.heap.size from⟨h4,Nat.le_trans HK3.out k4.size⟩);clear h4 k4 HO2 HK3;go_wp2_with fail
 go_loopw[16] (fun iv wr=>∃j:Nat,j<=n/\iv=.int .i64 j/\Hid (Duo (fun _=>False) w w.heap.size (2+2*j) v m c x (Zau (l.take j)) (Zau (l.take j)) wr/\w.heap.size<=wr.heap.size)) (fun iv _=>n-(intOf iv).toNat)
 case atStart=>exact⟨0,Nat.zero_le _,rfl,H0⟩
 case round=>
  clear H0;obtain⟨j,hj,rfl,HJ⟩:=hrel;by_cases hlt:j<n
  · have hlt':(j:Int)<(n:Int):=by omega
    have hj0:(0:Int)<=(j:Int):=by omega
    obtain⟨hdj,hwr⟩:=HJ.out;obtain⟨z,hz⟩:∃z,l[j]?=some z:=⟨_,List.getElem?_eq_getElem (by rw[HR.out.len];exact hlt)⟩
    have hzok:=HR.out.ok z (List.mem_of_getElem? hz);obtain⟨b,off,rfl,hb,hat⟩:=Zqy (HR.out.below hdj.was) hz;obtain⟨c0,c1,c2,c3,c4,c5,c6,c7,c8,c9,c10,c11⟩:=ZqU hat;obtain⟨wb,hwb⟩:∃wb,wb=wr.alloc (.cells #[.int .i64 2020,.int .i64 z.i,.int .i64 z.p,.int .i64 z.f,.int .i64 z.o,.bool z.ab,.int .i64 z.li,.int .i64 z.pr,.int .i64 z.en,.int .i64 z.ex,.int .i64 z.la,.int .i64 z.ca] 40 (0,0)):=⟨_,rfl⟩
    have hbb:Below wr.heap.size wr wb:=by rw[hwb];exact(Below.refl _ _).alloc (Nat.le_refl _) _
    have hblk:wb.heap[wr.heap.size]?=some (.cells #[.int .i64 2020,.int .i64 z.i,.int .i64 z.p,.int .i64 z.f,.int .i64 z.o,.bool z.ab,.int .i64 z.li,.int .i64 z.pr,.int .i64 z.en,.int .i64 z.ex,.int .i64 z.la,.int .i64 z.ca] 40 (0,0)):=by rw[hwb];exact heap_alloc_new wr _
    have hsz:wb.heap.size=wr.heap.size+1:=by rw[hwb];simp
    have hown:=hdj.own (Z:=fun k=>k=wr.heap.size) hwr hbb (fun k hk=>.inr (by rw[hk];omega));have HP:=hid (hown.view (M:=3+2*j) (S':=(Zau (l.take j)).putN (ZmI z)) (P:=fun e _=>e=.returned (.int .i64 0)) (Nat.le_trans hwr hbb.size) (fun hms=>(hms.put (by rw[ZkG];omega) _).more (by omega)) rfl (by omega) (fun X hX hmx _=>(ZfD hX (ZmI z) (Zkj hzok) (by have:=hmx.len;unfold maxLen;omega)).mono fun e w' ⟨a,b,c⟩=>⟨a,b,c⟩));have HBK:=hid (show ∀W,ZbP (fun k=>k=wr.heap.size) w.heap.size wb W->W.heap[wr.heap.size]?=some (.cells #[.int .i64 2020,.int .i64 z.i,.int .i64 z.p,.int .i64 z.f,.int .i64 z.o,.bool z.ab,.int .i64 z.li,.int .i64 z.pr,.int .i64 z.en,.int .i64 z.ex,.int .i64 z.la,.int .i64 z.ca] 40 (0,0))/\w.heap.size<=W.heap.size from fun W hW=>⟨(hW.1 _ rfl).trans hblk,Nat.le_trans (Nat.le_trans hwr hbb.size) hW.size⟩);have HOK:=hid (Zkj hzok);have HST:=hid (Zkl hz);clear hdj hwr hz hzok hb hat hbb hblk hsz hown HJ;go_wp2_with fail;rw[<-hwb];clear hwb c0 c1 c2 c3 c4 c5 c6 c7 c8 c9 c10 c11;refine HP.out.mono ?_;rintro u w5⟨rfl,h5,k5⟩;obtain⟨hk5,hs5⟩:=HBK.out w5 k5;obtain⟨y0,y1,y2,y3,y4,y5,y6,y7,y8,y9,y10,y11⟩:=Zq hk5
    have HQ:=hid (h5.ref (M:=4+2*j) (P:=fun e _ T'=>e=.returned (.int .i64 0)/\T'=(Zau (l.take j)).putN (ZmI z)) hs5 (by omega) (fun X p q r a hX hmx hB=>by
     have hPN:=hmx.put (x:=nKy (ZmI z).y (ZmI z).i) (by rw[ZkG];omega) (ZhO (ZmI z));refine(Zh7 hX (by omega) (ZmI z) HOK.out).mono ?_;rintro e w'⟨rfl,q1,q2⟩
     exact⟨_,⟨rfl,rfl⟩,q1.more (by omega),hPN.more (by omega),rfl,q2⟩))
    clear h5 k5 HP hk5;go_wp2_with fail;refine HQ.out.mono ?_;rintro u w6⟨T',⟨rfl,rfl⟩,h6,k6⟩
    have HJ:=hid (show Duo (fun _=>False) w w.heap.size (2+2*(j+1)) v m c x (Zau (l.take (j+1))) (Zau (l.take (j+1))) w6/\w.heap.size<=w6.heap.size from⟨by
     rw[HST.out,show 2+2*(j+1)=4+2*j by omega]
     exact h6.own (Nat.le_trans hs5 k6.size) (Below.refl _ _) (fun k hk=>hk.elim),Nat.le_trans hs5 k6.size⟩)
    clear h6 k6 HQ y0 y1 y2 y3 y4 y5 y6 y7 y8 y9 y10 y11 HST HOK HBK hs5;go_wp2_with fail;go_roundw
    case rel=>exact⟨j+1,by omega,by go_num,HJ⟩
    case measure=>simp[intOf];omega
  · obtain rfl:j=n:=by omega
    have htk:l.take j=l:=List.take_of_length_le (by have:=HR.out.len;omega);have hdj:=HJ.out.1;rw[htk]at hdj;have HE:=hid (show ZqA w wr (Zau l) (2+2*j) (.returned (.tuple #[.pointer (some ⟨v,0,none⟩),.pointer (some ⟨x,0,none⟩)]))from⟨v,m,c,x,rfl,hdj⟩);clear hdj HJ htk;go_wp2_with fail;go_ret2;exact HE.out
end
abbrev Zg6:Nd:=⟨0,1,0,100,5010,false,9,0,0,0,0,0⟩
abbrev Zil:Ln:=⟨0,0,1,4⟩
theorem ZoQ:ZbR Zg6:=by intro v hv;simp only[List.mem_cons,List.not_mem_nil,or_false]at hv;rcases hv with rfl|rfl|rfl|rfl|rfl|rfl|rfl|rfl|rfl|rfl|rfl <;> omega
theorem ZoR:Za7 Zil:=⟨⟨by decide,by decide⟩,⟨by decide,by decide⟩,⟨by decide,by decide⟩,⟨by decide,by decide⟩⟩
theorem ZoS:(Zau [Zg6]).C.length<=90000:=by decide +kernel
theorem ZoT:(expNew (Zau [Zg6]) 2020 0 [Zil]).1=(1,false,0):=by decide +kernel
theorem Znb:(nodeAt (expNew (Zau [Zg6]) 2020 0 [Zil]).2 2020 1).map (fun n=>n.ex)=some 4:=by decide +kernel
theorem Znc:seqV ((expNew (Zau [Zg6]) 2020 0 [Zil]).2.now (bKy 2020 100 5010))=4:=by decide +kernel
theorem Znd:seqV ((expNew (Zau [Zg6]) 2020 0 [Zil]).2.now (bKy 2020 100 1010)) = -4:=by decide +kernel
theorem ZoU{w:World}{W:World}{c:Nat}{x:Ln}{T:TypeId}(hx:Za7 x)(hc:c≠w.heap.size)(h:Za (fun k=>k=c) (w.alloc (.cells #[.int .i64 x.f,.int .i64 x.o,.int .i64 x.n,.int .i64 x.a] T)) W):RL W W.heap.size (some ⟨w.heap.size,0,none⟩) 1 [x]:=by
 have hb:W.heap[w.heap.size]?=some (.cells #[.int .i64 x.f,.int .i64 x.o,.int .i64 x.n,.int .i64 x.a] T (0,0)):=(h.block w.heap.size (by simp) (fun e=>hc e.symm)).trans (heap_alloc_new w _);refine⟨rfl,fun y hy=>by obtain rfl:=List.mem_singleton.1 hy;exact hx,fun _=>⟨w.heap.size,0,rfl,(Array.getElem?_eq_some_iff.1 hb).1,fun j y hy=>?_⟩⟩;obtain⟨hj,hy'⟩:=List.getElem?_eq_some_iff.1 hy
 have:j=0:=by simp at hj;omega
 subst this;cases hy;exact⟨cell_of_row W _ 0 _ _ (0,0) hb,cell_of_row W _ 1 _ _ (0,0) hb,cell_of_row W _ 2 _ _ (0,0) hb,cell_of_row W _ 3 _ _ (0,0) hb⟩
theorem Ze7(w:World):Calls prog 19 #[] w fun e w'=>e=.returned (.bool true)/\Below w.heap.size w w':=by
 obtain⟨w1,hw1⟩:∃w1,w1=w.alloc (.cells #[.int .i64 0,.int .i64 1,.int .i64 0,.int .i64 100,.int .i64 5010,.bool false,.int .i64 9,.int .i64 0,.int .i64 0,.int .i64 0,.int .i64 0,.int .i64 0] 40 (0,0)):=⟨_,rfl⟩
 have hb1:Below w.heap.size w w1:=by rw[hw1];exact(Below.refl _ _).alloc (Nat.le_refl _) _
 have hk1:w1.heap[w.heap.size]?=some (.cells #[.int .i64 0,.int .i64 1,.int .i64 0,.int .i64 100,.int .i64 5010,.bool false,.int .i64 9,.int .i64 0,.int .i64 0,.int .i64 0,.int .i64 0,.int .i64 0] 40 (0,0)):=by rw[hw1];exact heap_alloc_new w _
 have HBG:=hid (Zc5 (cap:=1) (l:=[Zg6]) (Enc.R.one (E:=NdE) (x:=Zg6) hk1 ZoQ) (by omega));have HB1:=hid hb1;clear hb1 hk1;go_enter func19,ntmps19;go_wp2_with fail;rw[<-hw1];clear hw1;refine HBG.out.mono ?_;rintro u w2⟨v,m,c,x,rfl,h2⟩;have hb2:Below w.heap.size w w2:=HB1.out.trans (h2.was.mono HB1.out.size);obtain⟨X,hX⟩:=h2.view_;have hcw:=hX.lt c hX.xc;obtain⟨w3,hw3⟩:∃w3,w3=w2.alloc (.cells #[.int .i64 0,.int .i64 0,.int .i64 1,.int .i64 4] 34 (0,0)):=⟨_,rfl⟩
 have hb3:Below w2.heap.size w2 w3:=by rw[hw3];exact(Below.refl _ _).alloc (Nat.le_refl _) _
 have hcB:w.heap.size<=c:=by
  obtain⟨X',p,q,r,a,z1,z2,z3,z4,z5,z6,z7,z8,z9⟩:=h2;exact Nat.le_trans HB1.out.size (z7 c z1.xc).1
 have HP:=hid (ZdQ (cap:=1) (hX.below hb3) (y:=2020) (f:=0) (by unfold ZS;omega) (by unfold ZS;omega) (l:=[Zil]) (fun W hW=>ZoU (w:=w2) (x:=Zil) ZoR (Nat.ne_of_lt hcw) (by rw[hw3]at hW;exact hW)) (Nat.le_refl 1) (by unfold maxLen;omega) ZoS);rw[ZoT]at HP;have HB3:=hid (And.intro (hb2.trans (hb3.mono hb2.size)) hcB);clear h2 hX hb2 hb3 hcB hcw HBG HB1;go_wp2_with fail;rw[<-hw3];clear hw3;refine HP.out.mono ?_;rintro u w6⟨rfl,h6,t6⟩;have HG:=hid (ZfE h6 2020 1 (by unfold ZS;omega) (by unfold ZS;omega));have hn:=Znb;generalize nodeAt (expNew (Zau [Zg6]) 2020 0 [Zil]).2 2020 1=o at HG hn;obtain⟨z,rfl,hz⟩:=Option.map_eq_some_iff.1 hn;have HB6:=hid (show Below w.heap.size w w6 from HB3.out.1.trans (t6.below (fun k hk=>by rw[hk];exact HB3.out.2) HB3.out.1.size));have HZ:=hid hz
 have HBL:=hid (show ∀W,Below w6.heap.size w6 W->(Calls prog 55 #[.pointer (some ⟨v,0,none⟩),.int .i64 2020,.int .i64 100,.int .i64 5010] W fun e w'=>e=.returned (.int .i64 4)/\Below W.heap.size W w')/\(Calls prog 55 #[.pointer (some ⟨v,0,none⟩),.int .i64 2020,.int .i64 100,.int .i64 1010] W fun e w'=>e=.returned (.int .i64 (-4))/\Below W.heap.size W w')from fun W hW=>by
  have b1:=ZfW (h6.below hW) 2020 100 5010 (by unfold I64;omega) (by unfold I64;omega) (by unfold I64;omega);have b2:=ZfW (h6.below hW) 2020 100 1010 (by unfold I64;omega) (by unfold I64;omega) (by unfold I64;omega);rw[Znc]at b1;rw[Znd]at b2
  exact⟨b1,b2⟩)
 clear h6 t6 hn hz HP HB3;simp only[ndW,ndO,Option.getD_some]at HG;go_wp2_with fail;refine HG.out.mono ?_;rintro u w7⟨rfl,_,h7⟩;have hz:=HZ.out;obtain⟨zy,zi,zp,zf,zo,zab,zli,zpr,zen,zex,zla,zca⟩:=z;simp only at hz ⊢;subst hz;obtain⟨w8,hw8⟩:∃w8,w8=w7.alloc (.cells #[.int .i64 zy,.int .i64 zi,.int .i64 zp,.int .i64 zf,.int .i64 zo,.bool zab,.int .i64 zli,.int .i64 zpr,.int .i64 zen,.int .i64 4,.int .i64 zla,.int .i64 zca] 40 (0,0)):=⟨_,rfl⟩
 have hb8:Below w7.heap.size w7 w8:=by rw[hw8];exact(Below.refl _ _).alloc (Nat.le_refl _) _
 have h67:=HB6.out.trans (h7.mono HB6.out.size);have h68:=h7.trans (hb8.mono h7.size);have HC1:=hid (HBL.out w8 h68).1;have HC2:=hid (show ∀W,Below w8.heap.size w8 W->Calls prog 55 #[.pointer (some ⟨v,0,none⟩),.int .i64 2020,.int .i64 100,.int .i64 1010] W fun e w'=>e=.returned (.int .i64 (-4))/\Below W.heap.size W w' from fun W hW=>(HBL.out W (h68.trans (hW.mono h68.size))).2);have HE:=hid (h67.trans (hb8.mono h67.size));clear h7 hb8 h67 h68 HG HZ HB6 HBL;go_wp2_with fail;rw[<-hw8];clear hw8;refine HC1.out.mono ?_;rintro u w9⟨rfl,h9⟩;have HC3:=hid (HC2.out w9 h9);have HE2:=hid (HE.out.trans (h9.mono HE.out.size));clear h9 HC1 HC2 HE;go_wp2_with fail;refine HC3.out.mono ?_;rintro u w10⟨rfl,h10⟩;have HE3:=hid (HE2.out.trans (h10.mono HE2.out.size));clear h10 HC3 HE2;go_wp2_with fail;go_ret;exact⟨rfl,HE3.out⟩
section
variable{w w':World}{X X':Nat->Prop}{x p q r N:Nat}{a b d:TL}{S:VS}
theorem Z9.less{t:Nat}{L:TL}(h:Z9 w X' t L)(hx:∀k,X k->X' k)(ht:X t):Z9 w X t L:=by
 obtain⟨A,n,c,h1,h2,h3⟩:=h;exact⟨A,n,c,h1,ht,h3.keep (Nat.le_refl _) (fun k _ hn hk=>hn (hx k hk)) (fun _ _ _=>rfl)⟩
theorem ZP.less(h:ZP w X' x p q r a S N)(hx:∀k,X k->X' k)(h1:X x)(h2:X p)(h3:X q)(h4:X r):ZP w X x p q r a S N:=by
 obtain⟨b,d,g1,g2,g3,g4⟩:=h;exact⟨b,d,⟨g1.me,h1,g1.was.less hx h2,g1.now.less hx h3,g1.told.less hx h4,g1.apart,fun k hk=>g1.old k (hx k hk)⟩,g2,g3,g4⟩
theorem ZP.grow(h:ZP w X x p q r a S N){row:Option Nat}(hg:w.grownBy w' row)(hrow:∀b,row=some b->X b/\b≠x/\b≠p/\b≠q/\b≠r):ZP w' (fun k=>X k∨(k=w.heap.size/\k<w'.heap.size)) x p q r a S N:=by
 obtain⟨b,d,g1,g2,g3,g4⟩:=h
 refine⟨b,d,g1.keep hg.size (fun k hk hn he=>by rcases he with he|he;exact hn he;omega) (fun k hk=>.inl hk) (fun k hk=>by
  rcases hk with hk|hk
  · exact Nat.lt_of_lt_of_le (g1.old k hk) hg.size
  · exact hk.2) (fun k hk hh=>hg.block k hk fun e=>?_),g2,g3,g4⟩
 obtain⟨a1,a2,a3,a4,a5⟩:=hrow k e.symm;rcases hh with hh|hh|hh|hh|hh
 · exact a2 hh
 · exact a3 hh
 · exact a4 hh
 · exact a5 hh
 · exact hh a1
theorem ZP.four(h:ZP w X x p q r a S N):(X x/\X p/\X q/\X r)/\x<w.heap.size/\p<w.heap.size/\q<w.heap.size/\r<w.heap.size:=by
 obtain⟨b,d,g1,g2,g3,g4⟩:=h;exact⟨⟨g1.own,g1.was.own,g1.now.own,g1.told.own⟩,g1.lt,g1.was.lt,g1.now.lt,g1.told.lt⟩
end
theorem Ze8{f:Int}{d:Dc}:∀{l:List Ln} {st:List Dl} {S:VS},S.Ok->docGet S f=some (d,st)->(∀z∈st,ZaE z)->(ZE st l).2=0->docGet (ZaZ f S st l) f=some (d,(ZE st l).1.1)
 | [],st,S,hS,h,hok,hz=>h
 | x::t,st,S,hS,h,hok,hz=>by
  obtain⟨e,h2,h3⟩:=Zdz hz;obtain⟨e1,e2,e3⟩:=Zdy e
  have hx:ZaE (ZjD (st[x.n.toNat]?.getD Zav) x.a):=by
   refine ZnT ?_ _;rw[List.getElem?_eq_getElem (by omega),Option.getD_some];exact hok _ (List.getElem_mem _)
  have hg:=Zfu hS h (j:=x.n.toNat) (by omega) hx;rw[show((x.n.toNat:Nat):Int)=x.n by omega]at hg;rw[h3];refine Ze8 (ZbQ hS _ _ _) hg (fun z hz'=>?_) h2;rcases List.mem_or_eq_of_mem_set hz' with hz'|rfl
  · exact hok z hz'
  · exact hx
theorem Zgc{f:Int}{S:VS}{st:List Dl}{l:List Ln}{j:Nat}{x:Ln}(hx:l[j]?=some x)(h:(ZE st (l.take j)).2=0):ZaZ f S st (l.take (j+1))=(ZaZ f S st (l.take j)).putL f x.n (ZjD ((ZE st (l.take j)).1.1[x.n.toNat]?.getD Zav) x.a):=by
 obtain⟨hj,rfl⟩:=List.getElem?_eq_some_iff.1 hx;rw[List.take_succ_eq_append_getElem hj,Zgy f h]
theorem ZpR{W:World}{B n:Nat}{A:Option Addr}{l:List Ln}(h:RL W B A n l){b off:Nat}(e:A=some ⟨b,off,none⟩){j:Nat}{x:Ln}(hx:l[j]?=some x):W.cell? ⟨b,off+j*4+2,none⟩=some (.int .i64 x.n)/\W.cell? ⟨b,off+j*4+3,none⟩=some (.int .i64 x.a):=by
 have hj:=(List.getElem?_eq_some_iff.1 hx).1;obtain⟨b',off',e',_,hat⟩:=h.2.2 (by have:=h.1;omega);rw[e]at e';cases e';obtain⟨_,_,c2,c3⟩:=hat j x hx;exact⟨c2,c3⟩
def Zcl(w w':World)(X:Nat->Prop)(x p q r:Nat)(a:TL)(N:Nat)(S:VS)(R:(List Dl×Int)×VS)(e:Ending):Prop:=
 ∃(u:Value) (T:VS),e=.returned (.tuple #[u,.int .i64 R.1.2])/\(R.1.2=0->T=R.2)/\DlE.Own 50 w' w.heap.size u R.1.1/\ZP w' X x p q r a T N/\Zv T N/\T.W=S.W/\Za (fun k=>k=q∨k=r) w w'
def ZbJ(w wr:World)(X:Nat->Prop)(x p q r:Nat)(a:TL)(N:Nat)(T:VS)(u:Value)(tk:List Dl):Prop:=
 DlE.Own 50 wr w.heap.size u tk/\(∃X',(∀k,X k->X' k)/\(∀b,u.ownBlock=some b->X' b)/\ZP wr X' x p q r a T N)/\Zv T N/\Za (fun k=>k=q∨k=r) w wr
section
variable{w w':World}{X:Nat->Prop}{x p q r N:Nat}{a:TL}{S:VS}
theorem Zne(h:ZP w X x p q r a S N)(hm:Zv S N)(hN:N<=100000)(k y f:Int)(hf:ZS f){A:Option Addr}{n cap:Nat}{l:List Ln}(hl:∀W,Za (fun k=>k=q∨k=r) w W->RL W W.heap.size A n l)(hn:n<=1000) :
 Calls prog 58 #[.pointer (some ⟨x,0,none⟩),.int .i64 k,.int .i64 y,.int .i64 f,.slice A n cap] w fun e w'=>Zcl w w' X x p q r a (N+n) S (takeR S k y f l) e:=by
 have HG:=hid (Zbc h (by omega) f hf);have hlen:=(hl w (Za.refl _ _)).len;have hlok:=(hl w (Za.refl _ _)).ok;have H4:=hid h.four;have HS:=hid (And.intro hm.ok (And.intro hm hN));have HV:=hid (show ∀W,Below w.heap.size w W->ZP W X x p q r a S N/\Za (fun k=>k=q∨k=r) w W from fun W hW=>⟨h.below hW,Za.of_below hW⟩);have HL:=hid hl;have HLEN:=hid (And.intro hlen hlok)
 have HBAD:=hid (show ∀(v':Int) W,v'≠0->takeR S k y f l=(([],v'),S)->Below w.heap.size w W->Zcl w W X x p q r a (N+n) S (takeR S k y f l) (.returned (.tuple #[.slice none 0 0,.int .i64 v']))from fun v' W hv hR hW=>by
  rw[hR]
  exact⟨_,S,rfl,fun e=>absurd e hv,Enc.Own.start _ _ _,(h.below hW).more (by omega),hm.more (by omega),rfl,Za.of_below hW⟩)
 have h6:=fun(d:Dc) (st:List Dl) (hd:docGet S f=some (d,st))=>ZaT hd
 have t1:=fun(hd:docGet S f=none)=>ZcE (k:=k) (y:=y) (l:=l) hd
 have t2:=fun(d:Dc) (st:List Dl) (hd:docGet S f=some (d,st)) (q:d.k≠k∨d.y≠y)=>Zb9 (l:=l) hd q
 have t3:=fun(d:Dc) (st:List Dl) (hd:docGet S f=some (d,st)) (q1:d.k=k) (q2:d.y=y) (q:(ZE st l).2≠0)=>Zdn hd q1 q2 q
 have t4:=fun(d:Dc) (st:List Dl) (hd:docGet S f=some (d,st)) (q1:d.k=k) (q2:d.y=y) (q:(ZE st l).2=0)=>ZcF hd q1 q2 q
 have HT:=hid (And.intro h6 (And.intro t1 (And.intro t2 (And.intro t3 t4))));clear h6 t1 t2 t3 t4 h hm hl hlen hlok;obtain⟨o,ho⟩:∃o,o=docGet S f:=⟨_,rfl⟩
 rw[<-ho]at HG HT;have HO:=hid ho;clear ho;generalize takeR S k y f l=R at HBAD HT ⊢;go_enter func58,ntmps58;go_wp2_with fail;refine HG.out.mono ?_;rintro e w1⟨A0,k0,rfl,hown,hok,hdok,hb1⟩;clear HG;cases o with
 | none=>
  have HE:=hid (HBAD.out 7 (w1.alloc (.cells #[.int .i64 0,.int .i64 0,.int .i64 0,.int .i64 0,.int .i64 0] 44 (0,0))) (by decide) (HT.out.2.1 rfl) (hb1.trans (((Below.refl w1.heap.size w1).alloc (Nat.le_refl _) _).mono hb1.size)));clear HT HBAD HO hown hok hdok hb1;simp only[dcW,Option.map_none,Option.getD_none,Zbt,Option.isSome_none];go_wp2_with fail;go_ret2;exact HE.out
 | some pd=>
  obtain⟨d,st⟩:=pd;obtain⟨g1,g2,g3,g4,g5,g6,g7⟩:=HT.out.1 d st rfl;simp only[Zet]at hown hok;obtain⟨w2,hw2⟩:∃w2,w2=w1.alloc (.cells #[.int .i64 d.i,.int .i64 d.k,.int .i64 d.y,.int .i64 d.f,.int .i64 d.n] 44 (0,0)):=⟨_,rfl⟩
  have hb2:Below w1.heap.size w1 w2:=by rw[hw2];exact(Below.refl _ _).alloc (Nat.le_refl _) _
  have hblk:w2.heap[w1.heap.size]?=some (.cells #[.int .i64 d.i,.int .i64 d.k,.int .i64 d.y,.int .i64 d.f,.int .i64 d.n] 44 (0,0)):=by rw[hw2];exact heap_alloc_new w1 _
  have hb12:=hb1.trans (hb2.mono hb1.size);have HST:=hid (show 1<=st.length/\st.length<=6/\(∀z∈st,ZaE z)from⟨g5,g6,hok⟩);have HB12:=hid hb12;have HT2:=hid (HT.out.2.2.1 d st rfl);have HT3:=hid (HT.out.2.2.2.1 d st rfl);have HT4:=hid (HT.out.2.2.2.2 d st rfl);clear HT hown hok hdok hb1 hb2 g1 g2 g3 g4 g5 g6 g7;simp only[dcW,Option.map_some,Option.getD_some,Option.isSome_some,Zet];obtain⟨q0,q1,q2,q3,q4⟩:w2.cell? ⟨w1.heap.size,0,none⟩=some (.int .i64 d.i)/\w2.cell? ⟨w1.heap.size,1,none⟩=some (.int .i64 d.k)/\w2.cell? ⟨w1.heap.size,2,none⟩=some (.int .i64 d.y)/\w2.cell? ⟨w1.heap.size,3,none⟩=some (.int .i64 d.f)/\w2.cell? ⟨w1.heap.size,4,none⟩=some (.int .i64 d.n):=⟨cell_of_row w2 _ 0 _ _ (0,0) hblk,cell_of_row w2 _ 1 _ _ (0,0) hblk,cell_of_row w2 _ 2 _ _ (0,0) hblk,cell_of_row w2 _ 3 _ _ (0,0) hblk,cell_of_row w2 _ 4 _ _ (0,0) hblk⟩
  by_cases hdk:d.k=k
  · by_cases hdy:d.y=y
    · obtain⟨dI,dK,dY,dF,dN⟩:=d;simp only at hdk hdy hw2 q0 q1 q2 q3 q4 HO;subst hdk hdy;have HT3':=hid (HT3.out rfl rfl);have HT4':=hid (HT4.out rfl rfl);have H0:=hid (show ZbJ w w2 X x p q r a (N+0) (ZaZ f S st (l.take 0)) (.slice none 0 0) (ZE st (l.take 0)).1.2/\(ZE st (l.take 0)).2=0 from⟨⟨Enc.Own.start _ _ _,⟨X,fun k h=>h,(fun b e=>by cases e),(HV.out w2 HB12.out).1⟩,HS.out.2.1,(HV.out w2 HB12.out).2⟩,rfl⟩);clear HT2 HT3 HT4 hblk;go_wp2_with fail;rw[<-hw2];clear hw2 q0 q1 q2 q3 q4 HV
      go_loopw[15,16] (fun uv iv wr=>∃j:Nat,j<=n/\iv=.int .i64 j/\(∃A' k',uv=.slice A' j k')/\Hid (ZbJ w wr X x p q r a (N+j) (ZaZ f S st (l.take j)) uv (ZE st (l.take j)).1.2/\(ZE st (l.take j)).2=0)) (fun _ iv _=>n-(intOf iv).toNat)
      case atStart=>exact⟨0,Nat.zero_le _,rfl,⟨none,0,rfl⟩,H0⟩
      case round=>
       clear H0;obtain⟨j,hj,rfl,⟨A',k',rfl⟩,HJ⟩:=hrel;by_cases hlt:j<n
       · have hlt':(j:Int)<(n:Int):=by omega
         have hj0:(0:Int)<=(j:Int):=by omega
         obtain⟨⟨hown,⟨X1,hx1,hx2,hrs⟩,hmm,ht⟩,hz0⟩:=HJ.out;obtain⟨z0,hx⟩:∃x,l[j]?=some x:=⟨_,List.getElem?_eq_getElem (by rw[HLEN.out.1];exact hlt)⟩
         have hxok:=HLEN.out.2 z0 (List.mem_of_getElem? hx);have hwr:=ht.size;have hstj:=ZcP (l.take j) st;have hokj:=(Zdd (l:=l.take j) (st:=st) HST.out.2.2 fun z hz=>HLEN.out.2 z (List.mem_of_mem_take hz)).1;have htkl:=Za5 (l.take j) st hz0;have hTK:=Zfs hx hz0;have hBD:=fun h2=>Zhy hx hz0 h2
         have hget:=Ze8 HS.out.1 HO.out.symm HST.out.2.2 hz0;have hmore:=Zgc (f:=f) (S:=S) hx hz0;have hSW:=Zde f (l.take j) st S;obtain⟨TK,hTKd⟩:∃TK,TK=(ZE st (l.take j)).1.2:=⟨_,rfl⟩
         obtain⟨F,hF⟩:∃F,F=(ZE st (l.take j)).1.1:=⟨_,rfl⟩
         obtain⟨SJ,hSJ⟩:∃SJ,SJ=ZaZ f S st (l.take j):=⟨_,rfl⟩
         rw[<-hTKd]at hown htkl hTK;rw[<-hF]at hstj hokj hTK hBD hget hmore;rw[<-hSJ]at hrs hmm hget hmore hSW;have HGJ:=hid (Zbc hrs (by have:=HS.out.2.2;omega) f hf);rw[hget]at HGJ
         have HEND:=hid (show ∀W,Below wr.heap.size wr W->∀v:Int,v≠0->(ZE st l).2=v->Zcl w W X x p q r a (N+n) S R (.returned (.tuple #[.slice none 0 0,.int .i64 v]))from fun W hW v hv hq=>by
          rw[HT3'.out (by rw[hq];exact hv),hq];obtain⟨e1,e2,e3,e4⟩:=H4.out.1
          exact⟨_,SJ,rfl,fun e=>absurd e hv,Enc.Own.start _ _ _,((hrs.below hW).less hx1 e1 e2 e3 e4).more (by omega),hmm.more (by omega),hSW,ht.trans (Za.of_below hW)⟩)
         have HTK:=hid hTK;have HB:=hid hBD;have HQ:=hid (And.intro hown (And.intro hx1 (And.intro hx2 (And.intro hrs (And.intro hmm ht)))));have HQ2:=hid (And.intro hstj (And.intro hokj (And.intro htkl (And.intro hmore (And.intro hxok (And.intro hx hget))))));clear hown hx1 hx2 hrs hmm ht hz0 hxok hwr hstj hokj htkl hTK hBD hget hmore hSW hTKd hF hSJ HJ HBAD;go_wp2_with fail;refine HGJ.out.mono ?_;rintro e w3⟨A3,k3,rfl,hown3,hok3,hdok3,hb3⟩;clear HGJ;simp only[Zet]at hown3 hok3;have hFm:F.length=st.length:=HQ2.out.1;have hst1:=HST.out.1;obtain⟨g,rfl,hgb,hrow⟩:=ZbI.of_own hown3 (by omega);simp only[dcW,Option.map_some,Option.getD_some,Option.isSome_some,Zet];obtain⟨w4,hw4⟩:∃w4,w4=w3.alloc (.cells #[.int .i64 dI,.int .i64 dK,.int .i64 dY,.int .i64 dF,.int .i64 dN] 44 (0,0)):=⟨_,rfl⟩
         have hb4:Below w3.heap.size w3 w4:=by rw[hw4];exact(Below.refl _ _).alloc (Nat.le_refl _) _
         have hb34:=hb3.trans (hb4.mono hb3.size);have hrow4:=hrow.keep (hb4.block g hrow.lt);have hs4:w4.heap.size=w3.heap.size+1:=by rw[hw4];simp
         obtain⟨b,off,rfl,hb,hat⟩:=(HL.out w4 (HQ.out.2.2.2.2.2.trans (Za.of_below hb34))).2.2 (by omega);have HAM:=hid (show ∀W,Za (fun k=>k=q∨k=r) w W->W.cell? ⟨b,off+j*4+2,none⟩=some (.int .i64 z0.n)/\W.cell? ⟨b,off+j*4+3,none⟩=some (.int .i64 z0.a)from fun W hW=>ZpR (HL.out W hW) rfl hx);have htw4:=HQ.out.2.2.2.2.2.trans (Za.of_below hb34);have c2:=(HAM.out w4 htw4).1;rw[hFm]at hrow4 ⊢;have HB34:=hid hb34;clear hown3 hok3 hdok3 hb3 hb4 hrow hat hb hx;by_cases hneg:z0.n<0
         · have k1:decide (z0.n<0)=true:=decide_eq_true hneg;have hE:=ZcC (st:=F) (x:=z0) (.inl hneg);have HE:=hid (HEND.out w4 HB34.out 7 (by decide) ((HB.out (by rw[hE];decide)).trans hE));have c2':=c2;rw[hw4]at c2';clear hE HB HTK hneg HEND hrow4 HQ HQ2 htw4 hb34 c2;go_wp2_with fail;rw[<-hw4];go_ret2;exact HE.out
         · have k1:decide (z0.n<0)=false:=decide_eq_false hneg;by_cases hge:(st.length:Int)<=z0.n
           · have k2:decide ((st.length:Int)<=z0.n)=true:=decide_eq_true hge;have hE:=ZcC (st:=F) (x:=z0) (.inr (by rw[hFm];exact hge));have HE:=hid (HEND.out w4 HB34.out 7 (by decide) ((HB.out (by rw[hE];decide)).trans hE));have c2':=c2;rw[hw4]at c2';clear hE HB HTK hneg hge HEND hrow4 HQ HQ2 htw4 hb34 c2;go_wp2_with fail;rw[<-hw4];go_ret2;exact HE.out
           · have k2:decide ((st.length:Int)<=z0.n)=false:=decide_eq_false hge;obtain⟨i,hi⟩:∃i:Nat,z0.n=i:=⟨z0.n.toNat,by omega⟩
             have hin:i<st.length:=by omega
             obtain⟨z,hz⟩:∃z,F[i]?=some z:=⟨_,List.getElem?_eq_getElem (by rw[hFm];exact hin)⟩
             have hzok:=HQ2.out.2.1 z (List.mem_of_getElem? hz);have hEo:=Ze2 hi hz;have hNi:=ZjP hi hz;have hKi:=ZjQ hi hz;obtain⟨r0,r1,r2,r3⟩:=hrow4.cells hz;obtain⟨w5,hw5⟩:∃w5,w5=w4.alloc (.cells #[.int .i64 z.nd,.int .i64 z.o,.int .i64 z.l,.int .i64 z.c] 50 (0,0)):=⟨_,rfl⟩
             have hb5:Below w4.heap.size w4 w5:=by rw[hw5];exact(Below.refl _ _).alloc (Nat.le_refl _) _
             have hblk5:w5.heap[w4.heap.size]?=some (.cells #[.int .i64 z.nd,.int .i64 z.o,.int .i64 z.l,.int .i64 z.c] 50 (0,0)):=by rw[hw5];exact heap_alloc_new w4 _
             have hs5:w5.heap.size=w4.heap.size+1:=by rw[hw5];simp
             have hb45:=hb34.trans (hb5.mono hb34.size);have HOP:=hid (Zif z w5.drew);have hd:=(Below.refl w5.heap.size w5).drew;have hwr4:=hb34.size;have HB5:=hid (show Below wr.heap.size wr w5/\wr.heap.size<=w3.heap.size+1/\w3.heap.size+1<w5.heap.size from⟨hb45,by omega,by omega⟩)
             have KK:=hid (show ∀W,Below w5.heap.size w5 W->(W.cell? ⟨w3.heap.size+1,0,none⟩=some (.int .i64 z.nd)/\W.cell? ⟨w3.heap.size+1,1,none⟩=some (.int .i64 z.o)/\W.cell? ⟨w3.heap.size+1,2,none⟩=some (.int .i64 z.l)/\W.cell? ⟨w3.heap.size+1,3,none⟩=some (.int .i64 z.c)/\W.cell? ⟨b,off+j*4+3,none⟩=some (.int .i64 z0.a))/\W.heap[w3.heap.size+1]?=some (.cells #[.int .i64 z.nd,.int .i64 z.o,.int .i64 z.l,.int .i64 z.c] 50 (0,0))from fun W hW=>by
              rw[<-hs4];have hb:=(hW.block w4.heap.size (by omega)).trans hblk5;obtain⟨a0,a1,a2,a3⟩:=Zu hb
              exact⟨⟨a0,a1,a2,a3,(HAM.out W (htw4.trans ((Za.of_below hb5).trans (Za.of_below hW)))).2⟩,hb⟩)
             have c5:=(KK.out _ hd).1;have HROW:=hid (And.intro hz hzok);have HEO:=hid (And.intro hEo (And.intro hNi hKi));rw[hw4]at c2 r0 r1 r2 r3 hw5;clear hneg hge hrow4 hz hzok hEo hNi hKi hd hblk5 hs5 hb5 hb45 hb34 htw4 hwr4;obtain⟨xf,xo,xn,xa⟩:=z0;obtain⟨zn,zo,zl,zc⟩:=z;simp only at hi KK c5 k1 k2 HB HTK HROW HEO HQ2 HAM c2 r0 r1 r2 r3 hw5 HOP;subst hi;have hi0:(0:Int)<=(i:Int):=by omega
             have hin':(i:Int)<(st.length:Int):=by omega
             go_wp2_with fail;rw[<-hw5];clear hw5 hw4 c2 r0 r1 r2 r3;generalize openL ⟨zn,zo,zl,zc⟩=oz at HOP HEO
             go_region_held3 (fun W=>W.cell? ⟨w3.heap.size+1,0,none⟩=some (.int .i64 zn)/\W.cell? ⟨w3.heap.size+1,1,none⟩=some (.int .i64 zo)/\W.cell? ⟨w3.heap.size+1,2,none⟩=some (.int .i64 zl)/\W.cell? ⟨w3.heap.size+1,3,none⟩=some (.int .i64 zc)/\W.cell? ⟨b,off+j*4+3,none⟩=some (.int .i64 xa))
              (first|with_reducible exact c5|exact c5)
              (first|(go_at_call 114;refine Calls.mono HOP.out ?_;rintro e w6 ⟨rfl,hb6⟩;have hb6:=((Below.refl w5.heap.size w5).drew).trans hb6;have c5:=(KK.out _ hb6).1))
             have hk6:=(KK.out w6 hb6).2;have HB6:=hid (show Below wr.heap.size wr w6/\w3.heap.size+1<w6.heap.size/\w6.heap[w3.heap.size+1]?=some (.cells #[.int .i64 zn,.int .i64 zo,.int .i64 zl,.int .i64 zc] 50 (0,0))from⟨HB5.out.1.trans (hb6.mono HB5.out.1.size),Nat.lt_of_lt_of_le HB5.out.2.2 hb6.size,hk6⟩);clear c5 hb6 HOP hk6 KK;obtain⟨Bb,hBb⟩:∃B,B=decide (oz<xa):=⟨_,rfl⟩
             rw[<-hBb];cases Bb with
             | true=>
              have hop:=of_decide_eq_true hBb.symm;clear hBb;have hE:=HEO.out.1.trans (if_pos hop);have HE:=hid (HEND.out w6 HB6.out.1 12 (by decide) ((HB.out (by rw[hE];decide)).trans hE));clear hE HB HTK hop HEND HEO HROW HQ HQ2;go_wp2_with fail;go_ret2;exact HE.out
             | false=>
              have hop:=of_decide_eq_false hBb.symm;clear hBb;have hE:=HEO.out.1.trans (if_neg hop);have hTK:=HTK.out;rw[if_pos hE]at hTK;have htw6:=HQ.out.2.2.2.2.2.trans (Za.of_below HB6.out.1);have n2:w6.drew.cell? ⟨w3.heap.size+1,2,none⟩=some (.int .i64 zl):=(Zu HB6.out.2.2).2.2.1;have n3:w6.drew.cell? ⟨b,off+j*4+3,none⟩=some (.int .i64 xa):=(HAM.out w6 htw6).2
              have nf:w6.drew.frozen? ⟨w3.heap.size+1,2,none⟩=false:=by
               have:=HB6.out.2.2
               show w6.frozen? _=false;simp[World.frozen?,this]
              have hwz:IntKind.i64.wrap (zl+xa)=wrap64 (zl+xa):=Zb8 _;have HTKH:=hid hTK;have HTW:=hid htw6;clear hE hTK hop HEND HB HTK htw6;go_wp2_with fail
              have HW7:=hid (show ∃w7,w7=(w6.setCell ⟨w3.heap.size+1,2,none⟩ (.int .i64 (wrap64 (zl+xa)))).drew/\Below wr.heap.size wr w7/\w7.heap[w3.heap.size+1]?=some (.cells #[.int .i64 zn,.int .i64 zo,.int .i64 (wrap64 (zl+xa)),.int .i64 zc] 50 (0,0))/\w3.heap.size+1<w7.heap.size from by
               have hb7:=Zd HB6.out.1 HB5.out.2.1 2 (.int .i64 (wrap64 (zl+xa)));have hd7:=(Below.refl (w6.setCell ⟨w3.heap.size+1,2,none⟩ (.int .i64 (wrap64 (zl+xa)))).heap.size (w6.setCell ⟨w3.heap.size+1,2,none⟩ (.int .i64 (wrap64 (zl+xa))))).drew;have hs7:(w6.setCell ⟨w3.heap.size+1,2,none⟩ (.int .i64 (wrap64 (zl+xa)))).heap.size=w6.heap.size:=by simp
               refine⟨_,rfl,hb7.trans (hd7.mono hb7.size),(hd7.block _ (by rw[hs7];exact HB6.out.2.1)).trans ?_,by show _<(w6.setCell _ _).heap.size;rw[hs7];exact HB6.out.2.1⟩
               exact heap_setCell_same w6 (w3.heap.size+1) 2 _ _ _ HB6.out.2.2)
              go_region_law (fail)
              all_goals
               obtain⟨w7,hw7,hb7,hk7,hs7⟩:=HW7.out;rw[<-hw7];clear hw7 n2 n3 nf HW7;obtain⟨g0,g1,g2,g3⟩:=Zu hk7;have hrs7:=HQ.out.2.2.2.1.below hb7;have hget:=HQ2.out.2.2.2.2.2.2
               have hLok:ZaE ⟨zn,zo,wrap64 (zl+xa),zc⟩:=by
                intro v hv;have hz0:=HROW.out.2;simp only[List.mem_cons,List.not_mem_nil,or_false]at hv;rcases hv with rfl|rfl|rfl|rfl
                · exact hz0 _ (by simp)
                · exact hz0 _ (by simp)
                · unfold wrap64;omega
                · exact hz0 _ (by simp)
               have hset:=ZcD hget (j:=(i:Int)) (by rw[HQ2.out.1];omega) ⟨zn,zo,wrap64 (zl+xa),zc⟩;have HSET:=hid (Zeg hrs7 (by have:=HS.out.2.2;omega) f (i:Int) ⟨zn,zo,wrap64 (zl+xa),zc⟩ hLok hf (by have:=HST.out.2.1;omega));rw[hset]at HSET;have hmo:=HQ2.out.2.2.2.1;simp only[Int.toNat_natCast]at hmo;rw[HROW.out.1,Option.getD_some]at hmo;have HMO:=hid (show ZaZ f S st (l.take (j+1))=SJ.putL f (i:Int) ⟨zn,zo,wrap64 (zl+xa),zc⟩ from hmo);have HB7:=hid (And.intro hb7 (And.intro hk7 hs7));clear hrs7 hget hLok hset hmo hb7 hk7 hs7;go_wp2_with fail;refine HSET.out.mono ?_;rintro e w8⟨rfl,h8,t8⟩;clear HSET g0 g1 g2 g3;obtain⟨hb7,hk7,hs7⟩:=HB7.out;obtain⟨o1,o2,o3,o4,o5⟩:=H4.out;have hww:=HQ.out.2.2.2.2.2.size;have hs34:=HB5.out.2.1;have htw8:Za (fun k=>k=q∨k=r) w w8:=(HQ.out.2.2.2.2.2.trans (Za.of_below hb7)).trans t8;have hk8:=(t8.block (w3.heap.size+1) hs7 (fun e=>by omega)).trans hk7;have e0:w8.drew.cell? ⟨w3.heap.size+1,0,none⟩=some (.int .i64 zn):=(Zu hk8).1;have e3:w8.drew.cell? ⟨b,off+j*4+3,none⟩=some (.int .i64 xa):=(HAM.out w8 htw8).2
               have hown8:=HQ.out.1.stays (w':=w8) fun s hs=>by
                have hs2:=HQ.out.1.at_ s hs;exact(t8.block s (Nat.lt_of_lt_of_le hs2.2 hb7.size) (fun e=>by omega)).trans (hb7.block s hs2.2)
               have hb9:Below w8.heap.size w8 (w8.alloc (.cells #[.int .i64 zn,.int .i64 xa,.int .i64 0,.int .i64 0] 50)).drew:=((Below.refl _ _).alloc (Nat.le_refl _) _).drew;have hkl:TK.length=j:=by rw[HQ2.out.2.2.1,List.length_take];have:=HLEN.out.1;omega
               have hkok:ZaE ⟨zn,xa,0,0⟩:=by
                intro v hv;simp only[List.mem_cons,List.not_mem_nil,or_false]at hv;rcases hv with rfl|rfl|rfl|rfl
                · exact HROW.out.2 _ (by simp)
                · exact HQ2.out.2.2.2.2.1.2.2.2
                · omega
                · omega
               obtain⟨v',w10,hrun,hown10,hb10,hgr,hgn⟩:=(hown8.below hb9).append1 DlT (x:=⟨zn,xa,0,0⟩) (heap_alloc_new w8 _) rfl hkok (by omega) (Nat.le_trans htw8.size hb9.size) 45;obtain⟨A10,k10,rfl,hk10⟩:=hown10.shape;have hl10:(TK++[(⟨zn,xa,0,0⟩:Dl)]).length=j+1:=by rw[List.length_append,hkl];rfl
               rw[hl10]at hrun hown10 hgn;have HRUN:=hid hrun
               have hJ:ZbJ w w10 X x p q r a (N+(j+1)) (SJ.putL f (i:Int) ⟨zn,zo,wrap64 (zl+xa),zc⟩) (.slice A10 (j+1) k10) (TK++[(⟨zn,xa,0,0⟩:Dl)]):=by
                have hg9:=(h8.below hb9).grow hgr (fun s hs=>by
                 have hs2:=HQ.out.1.at_ s hs
                 exact⟨HQ.out.2.2.1 s hs,by omega,by omega,by omega,by omega⟩)
                refine⟨hown10,⟨_,fun k hk=>.inl (HQ.out.2.1 k hk),fun s hs=>?_,hg9⟩,Zft HQ.out.2.2.2.2.1 _ _ _,⟨hb10.os.trans (hb9.os.trans htw8.os),hb10.tape.trans (hb9.tape.trans htw8.tape),hb10.output.trans (hb9.output.trans htw8.output),Nat.le_trans htw8.size (Nat.le_trans hb9.size hb10.size),fun q hq hn=>(hb10.block q hq).trans ((hb9.block q (Nat.lt_of_lt_of_le hq htw8.size)).trans (htw8.block q hq hn))⟩⟩;rcases hgn with hgn|hgn
                · exact .inl (HQ.out.2.2.1 s (hgn.symm.trans hs))
                · rw[hgn]at hs;cases hs;exact .inr ⟨rfl,(hown10.at_ _ hgn).2⟩
               have HJ2:=hid (show ZbJ w w10 X x p q r a (N+(j+1)) (ZaZ f S st (l.take (j+1))) (.slice A10 (j+1) k10) (ZE st (l.take (j+1))).1.2/\(ZE st (l.take (j+1))).2=0 from by
                rw[HMO.out,HTKH.out]
                exact⟨by rw[HEO.out.2.2];exact hJ,rfl⟩)
               clear h8 t8 hb7 hk7 hs7 o1 o2 o3 o4 o5 hww hs34 htw8 hk8 hown8 hb9 hkl hkok hrun hown10 hb10 hgr hgn hk10 hl10 hJ HB7 HMO HTKH HEO HROW HQ HQ2;go_wp2_with fail
               go_region_law (refine Zcq rfl (.tmp 93) (.tmp 102) _ _ rfl _ _ (by rfl) (by rfl) HRUN.out ?_)
               all_goals
                clear HRUN;go_wp2_with fail;go_roundw
                case rel=>exact⟨j+1,by omega,by go_num,⟨A10,k10,rfl⟩,HJ2⟩
                case measure=>simp[intOf];omega
       · obtain rfl:j=n:=by omega
         have htk:l.take j=l:=List.take_of_length_le (by have:=HLEN.out.1;omega);obtain⟨⟨hown,⟨X1,hx1,hx2,hv⟩,hmm,ht⟩,hz0⟩:=HJ.out;rw[htk]at hown hv hmm hz0;have hR:=HT4'.out hz0
         have HE:=hid (show Zcl w wr X x p q r a (N+j) S R (.returned (.tuple #[.slice A' j k',.int .i64 0]))from by
          rw[hR];obtain⟨e1,e2,e3,e4⟩:=H4.out.1
          exact⟨_,_,rfl,fun _=>rfl,hown,hv.less hx1 e1 e2 e3 e4,hmm,Zde _ _ _ _,ht⟩)
         clear hown hv hmm hz0 ht hR htk HJ hx1 hx2;go_wp2_with fail;go_ret2;exact HE.out
    · have HE:=hid (HBAD.out 12 w2 (by decide) (HT2.out (.inr hdy)) HB12.out);have k1:(d.k != k)=false:=by simp[hdk]
      have k2:(d.y != y)=true:=by simp[hdy]
      clear HT2 HT3 HT4 hblk hdk hdy HO;obtain⟨dI,dK,dY,dF,dN⟩:=d;simp only at k1 k2 hw2 q0 q1 q2 q3 q4;go_wp2_with fail;rw[<-hw2];go_ret2;exact HE.out
  · have HE:=hid (HBAD.out 12 w2 (by decide) (HT2.out (.inl hdk)) HB12.out);have k1:(d.k != k)=true:=by simp[hdk]
    clear HT2 HT3 HT4 hblk hdk HO;obtain⟨dI,dK,dY,dF,dN⟩:=d;simp only at k1 hw2 q0 q1 q2 q3 q4;go_wp2_with fail;rw[<-hw2];go_ret2;exact HE.out
end
theorem ZoV{f:Int}{pp:Int}(hp:pp=if f=0 then 0 else -1){z:Dl}(h:ZaE z):ZmH pp 1 0 z=encCh f z:=by
 have ho:ZS z.o:=h _ (by simp);unfold ZmH encCh Zqx;subst hp;by_cases hf:f=0
 · subst hf;simp only[if_true,Int.zero_mul,Int.one_mul];rw[ZbK ho,ZbK (a:=0) (by unfold ZS;omega)];rfl
 · have h1:(!(f == 0))=true:=by simp[hf]
   rw[if_neg hf,h1,if_pos rfl,Int.one_mul,Int.zero_mul,ZbK ho,ZbK (a:=0) (by unfold ZS;omega),show -1*z.o = -z.o by omega]
theorem Zim{f:Int}{pp:Int}(hp:pp=if f=0 then 0 else -1){l:List Dl}(h:∀z∈l,ZaE z):l.map (ZmH pp 1 0)=l.map (encCh f):=
 List.map_congr_left fun z hz=>ZoV hp (h z hz)
section
variable{w w':World}{X:Nat->Prop}{x p q r N:Nat}{a:TL}{S:VS}
theorem ZjU(h:ZP w X x p q r a S N)(hm:Zv S N)(hN:N<=90000)(hok:∀f d st,docGet S f=some (d,st)->∀z∈st,ZaE z)(y f:Int)(hy:ZS y)(hf:ZS f){A:Option Addr}{n cap:Nat}{l:List Ln}(hl:∀W,Za (fun k=>k=q∨k=r) w W->RL W W.heap.size A n l)(hn:n<=maxLen) :
 Calls prog 21 #[.pointer (some ⟨x,0,none⟩),.int .i64 y,.int .i64 f,.slice A n cap] w fun u w'=>Zar w w' X x p q r a (N+62) S (encNew S y f l) u:=by
 have HF:=hid (Zgw (cap:=cap) h (by omega) y hy (fun W hW=>hl W (Za.of_below hW)) hn);have hlen:=(hl w (Za.refl _ _)).len;have hlok:=(hl w (Za.refl _ _)).ok;have hown:=h.own;have hqr:=And.intro (h.old _ hown.1) (h.old _ hown.2);have HLI:=hid (show ∀W,Below w.heap.size w W->n<=6->Calls prog 57 #[.slice A n cap] W fun e w'=>∃u,e=.returned u/\DlE.Own 50 w' W.heap.size u (l.map ZY)/\Below W.heap.size W w' from fun W hW h6=>Zgv cap (hl W (Za.of_below hW)) (Nat.le_refl _) (by omega));have HTAKE:=hid (show ∀W,Below w.heap.size w W->n<=6->Calls prog 58 #[.pointer (some ⟨x,0,none⟩),.int .i64 1,.int .i64 y,.int .i64 f,.slice A n cap] W fun e w'=>Zcl W w' X x p q r a (N+n) S (takeR S 1 y f l) e from fun W hW h6=>Zne (h.below hW) hm (by omega) 1 y f hf (fun V hV=>hl V ((Za.of_below hW).trans hV)) (by omega));have e1:yChk S y≠0->encNew S y f l=((0,false,yChk S y),S):=fun h=>by rw[ZaI,if_neg h]
 have e2:yChk S y=0->preChk l≠0->encNew S y f l=((0,false,1),S):=fun h g=>by rw[ZaI,if_pos h,if_neg g]
 have e3:yChk S y=0->preChk l=0->f≠0->(takeR S 1 y f l).1.2≠0->encNew S y f l=((0,false,(takeR S 1 y f l).1.2),(takeR S 1 y f l).2):=fun h g j q=>by
  have hE:Zdo S y f l=takeR S 1 y f l:=if_neg j;rw[ZaI,if_pos h,if_pos g,hE,if_neg q]
 have e4:yChk S y=0->preChk l=0->f≠0->(takeR S 1 y f l).1.2=0->encNew S y f l=ZI (takeR S 1 y f l).2 y 2 f ((takeR S 1 y f l).1.1.map (encCh f)) (takeR S 1 y f l).1.1:=fun h g j q=>by
  have hE:Zdo S y f l=takeR S 1 y f l:=if_neg j;rw[ZaI,if_pos h,if_pos g,hE,if_pos q]
 have e5:yChk S y=0->preChk l=0->f=0->encNew S y f l=ZI S y 2 f ((l.map ZY).map (encCh f)) (l.map ZY):=fun h g j=>by
  have hE:Zdo S y f l=((l.map ZY,0),S):=if_pos j;rw[ZaI,if_pos h,if_pos g,hE,if_pos rfl]
 have hp01:preChk l=0∨preChk l=1:=by unfold preChk;split;exact .inr rfl;exact .inl rfl
 have HP6:=hid (fun h=>Zbp (l:=l) h);have E:=hid (And.intro e1 (And.intro e2 (And.intro e3 (And.intro e4 e5))));have HV:=hid (show ∀W,Below w.heap.size w W->ZP W X x p q r a S N/\Za (fun k=>k=q∨k=r) w W from fun W hW=>⟨h.below hW,Za.of_below hW⟩);have HM:=hid hm;have HLEN:=hid (And.intro hlen hlok);have HYY:=hid hy;have HFF:=hid hf;have HTO:=hid (And.intro (fun h=>Zbq (S:=S) (k:=1) (y:=y) (f:=f) (l:=l) h) (ZeF (k:=1) (y:=y) (fun d st hd=>hok f d st hd) hlok));clear h hm hl hlen hlok e1 e2 e3 e4 e5 hown hok;obtain⟨R,hR⟩:∃R,R=encNew S y f l:=⟨_,rfl⟩
 rw[<-hR]at E ⊢;clear hR;obtain⟨TR,hTR⟩:∃TR,TR=takeR S 1 y f l:=⟨_,rfl⟩
 rw[<-hTR]at E HTAKE HTO;clear hTR;obtain⟨yc,hyc⟩:∃yc,yc=yChk S y:=⟨_,rfl⟩
 rw[<-hyc]at HF E;clear hyc;obtain⟨pc,hpc⟩:∃pc,pc=preChk l:=⟨_,rfl⟩
 rw[<-hpc]at E HF hp01 HP6;clear hpc
 have HBAD:=hid (show ∀(v:Int) W,v≠0->R=((0,false,v),S)->Below w.heap.size w W->Zar w W X x p q r a (N+62) S R (.returned (.tuple #[.int .i64 0,.bool false,.int .i64 v]))from fun v W hv hR hW=>by
  rw[hR]
  exact⟨S,rfl,fun h=>absurd h hv,(HV.out W hW).1.more (by omega),HM.out.more (by omega),rfl,(HV.out W hW).2⟩)
 go_enter func21,ntmps21;go_wp2_with fail;refine HF.out.mono ?_;rintro e w2⟨rfl,h2⟩;have H2:=hid h2;clear h2 HF;by_cases h0:yc=0
 · subst h0;rw[if_pos rfl];rcases hp01 with rfl|rfl
   · obtain⟨n1,n6,hra⟩:=HP6.out (by first|rfl|trivial);rw[HLEN.out.1]at n1 n6;have HLI2:=hid (HLI.out w2 H2.out n6);have HTAKE2:=hid (fun W (hW:Below w.heap.size w W)=>HTAKE.out W hW n6);have HER3:=hid (fun j=>E.out.2.2.1 (by first|rfl|trivial) (by first|rfl|trivial) j);have HER4:=hid (fun j=>E.out.2.2.2.1 (by first|rfl|trivial) (by first|rfl|trivial) j);have HER5:=hid (fun j=>E.out.2.2.2.2 (by first|rfl|trivial) (by first|rfl|trivial) j);clear E HP6 hra HBAD HLI HTAKE;go_wp2_with fail;refine HLI2.out.mono ?_;rintro e w3⟨u,rfl,hown,h3⟩;obtain⟨A',k',rfl,hk'⟩:=hown.shape;have h13:=H2.out.trans (h3.mono H2.out.size);by_cases hf0:f=0
     · subst hf0;have hl3:(l.map ZY).length=n:=by rw[List.length_map];exact HLEN.out.1
       rw[hl3]at hown hk' ⊢;have hdok:=Zbx HLEN.out.2;have HER:=hid (HER5.out rfl);obtain⟨DL,hDL⟩:∃DL,DL=l.map ZY:=⟨_,rfl⟩
       rw[<-hDL]at hown hl3 hdok HER;obtain⟨ST,hST⟩:∃ST,ST=S:=⟨_,rfl⟩
       have hs2:=H2.out.size;have hs3:=h3.size
       have HROW:=hid (show ∀W,Za (fun k=>k=q∨k=r) w3 W->DlE.R W W.heap.size A' n DL from fun W hW=>by
        have ho:=hown.stays (w':=W) fun g hg=>hW.block g (hown.at_ g hg).2 (fun e=>by have:=(hown.at_ g hg).1;omega)
        exact(ho.read hdok).2.2)
       have hRS:=(HV.out w3 h13).1;have hMM:=HM.out;rw[<-hST]at hRS hMM HER;have HCH:=hid (Zdw (cap:=k') hRS hMM (by omega) y HYY.out HROW.out (by omega) 0 1 0);rw[Zim (f:=0) (by rw[if_pos rfl]) hdok]at HCH;have HSW:=hid (show ST.W=S.W by rw[hST]);have HT3:=hid (And.intro (HV.out w3 h13).2 (And.intro hk' (And.intro hl3 hdok)));have HLEN2:=hid hl3;clear hown h3 h13 hl3 hdok hk' HLI2 hs2 hs3 hDL hST hRS hMM HTAKE2 HER3 HER4 HER5 HTO HV;obtain⟨Rj,hRj⟩:∃Rj,Rj=runC y ST false (DL.map (encCh 0)):=⟨_,rfl⟩
       rw[<-hRj]at HCH;obtain⟨⟨bj,ej⟩,Sj⟩:=Rj;go_wp2_with fail;refine HCH.out.mono ?_;rintro u w5⟨b,T,rfl,hT,h4,m4,tw4,t4⟩;simp only at hT ⊢;clear HCH;by_cases he:ej=0
       · subst he;obtain⟨rfl,rfl⟩:=hT (by first|rfl|trivial);have hER:=HER.out;rw[ZcM hRj.symm]at hER
         have hDOK:ZmW ⟨0,2,y,0,0⟩:=by
          intro z hz;simp only[List.mem_cons,List.not_mem_nil,or_false]at hz;rcases hz with rfl|rfl|rfl|rfl|rfl
          · omega
          · omega
          · exact HYY.out
          · exact HFF.out
          · omega
         have HPUT:=hid (ZbH h4 (by omega) ⟨0,2,y,0,0⟩ hDOK (HROW.out w5 t4) HT3.out.2.1 (by unfold maxLen;omega));have HMP:=hid (Za2 m4 ⟨0,2,y,0,0⟩ DL);have HWP:=hid (((ZbX T ⟨0,2,y,0,0⟩ DL).trans tw4).trans HSW.out);have HT4:=hid (HT3.out.1.trans t4);have HER2:=hid hER;clear hT h4 m4 tw4 t4 hRj hER HER hDOK HROW HT3;generalize putDoc T ⟨0,2,y,0,0⟩ DL=PD at HPUT HER2 HMP HWP;obtain⟨⟨pa,pb⟩,PS⟩:=PD;simp only at HPUT HER2 HMP HWP;go_wp2_with fail;refine HPUT.out.mono ?_;rintro u w6⟨rfl,h5,t5⟩;by_cases hb:pb=0
         · subst hb;have hR:=HER2.out.trans (if_pos rfl)
           have HE:=hid (show Zar w w6 X x p q r a (N+62) S R (.returned (.tuple #[.int .i64 pa,.bool b,.int .i64 0]))from by
            rw[hR]
            exact⟨PS,rfl,fun _=>rfl,h5.more (by omega),HMP.out.more (by omega),HWP.out,HT4.out.trans t5⟩)
           clear h5 t5 hR HPUT HER2 HMP HWP HT4;go_wp2_with fail
           go_ret3
           exact HE.out
         · have k1:(pb != 0)=true:=by simp[hb]
           have hR:=HER2.out.trans (if_neg hb)
           have HE:=hid (show Zar w w6 X x p q r a (N+62) S R (.returned (.tuple #[.int .i64 0,.bool false,.int .i64 pb]))from by
            rw[hR]
            exact⟨PS,rfl,fun h=>absurd h hb,h5.more (by omega),HMP.out.more (by omega),HWP.out,HT4.out.trans t5⟩)
           clear h5 t5 hR HPUT HER2 HMP HWP HT4 hb;go_wp2_with fail
           go_ret3
           exact HE.out
       · have k1:(ej != 0)=true:=by simp[he]
         have hR:=HER.out.trans (ZcL hRj.symm he)
         have HE:=hid (show Zar w w5 X x p q r a (N+62) S R (.returned (.tuple #[.int .i64 0,.bool false,.int .i64 ej]))from by
          rw[hR]
          exact⟨T,rfl,fun h=>absurd h he,h4.more (by omega),m4.more (by omega),tw4.trans HSW.out,HT3.out.1.trans t4⟩)
         clear hR h4 m4 tw4 t4 hT HER HROW HT3 he hRj;go_wp2_with fail
         go_ret3
         exact HE.out
     · have k2:(f != 0)=true:=by simp[hf0]
       have HTK3:=hid (HTAKE2.out w3 h13);have HT13:=hid (HV.out w3 h13).2;have HS3:=hid (Nat.le_trans H2.out.size h3.size);have E3:=hid (HER3.out hf0);have E4:=hid (HER4.out hf0);clear hown h3 h13 hk' HLI2 HTAKE2 HER3 HER4 HER5 HV hf0;obtain⟨⟨TL_,te⟩,TS⟩:=TR;simp only at E3 E4 HTO HTK3;go_wp2_with fail;refine HTK3.out.mono ?_;rintro e w4⟨u,ST,rfl,hT,own4,rs4,ms4,tw4,tt4⟩;simp only at hT own4 ⊢;clear HTK3;by_cases hte:te=0
       · subst hte;obtain rfl:=hT (by first|rfl|trivial);have HER:=hid (E4.out (by first|rfl|trivial));obtain⟨DL,hDL⟩:∃DL,DL=TL_:=⟨_,rfl⟩
         subst hDL;obtain⟨A2,k2',rfl,hk'⟩:=own4.shape;have hl3:DL.length=n:=(HTO.out.1 (by first|rfl|trivial)).trans HLEN.out.1;have hdok:∀z∈DL,ZaE z:=HTO.out.2;rw[hl3]at own4 hk' ⊢;have hs3:=HS3.out
         have HROW:=hid (show ∀W,Za (fun k=>k=q∨k=r) w4 W->DlE.R W W.heap.size A2 n DL from fun W hW=>by
          have ho:=own4.stays (w':=W) fun g hg=>hW.block g (own4.at_ g hg).2 (fun e=>by have:=(own4.at_ g hg).1;omega)
          exact(ho.read hdok).2.2)
         have HCH:=hid (Zdw (cap:=k2') rs4 ms4 (by omega) y HYY.out HROW.out (by omega) (-1) 1 0);rw[Zim (f:=f) (by rw[if_neg (by intro e;rw[e]at k2;exact absurd k2 (by decide))]) hdok]at HCH;have HSW:=hid tw4;have HT3:=hid (And.intro (HT13.out.trans tt4) (And.intro hk' (And.intro hl3 hdok)));have HLEN2:=hid hl3;clear own4 hl3 hdok hk' hs3 rs4 ms4 tw4 tt4 hT E3 E4 HTO HT13 HS3;obtain⟨Rj,hRj⟩:∃Rj,Rj=runC y ST false (DL.map (encCh f)):=⟨_,rfl⟩
         rw[<-hRj]at HCH;obtain⟨⟨bj,ej⟩,Sj⟩:=Rj;go_wp2_with fail;refine HCH.out.mono ?_;rintro u w5⟨b,T,rfl,hT,h4,m4,tw4,t4⟩;simp only at hT ⊢;clear HCH;by_cases he:ej=0
         · subst he;obtain⟨rfl,rfl⟩:=hT (by first|rfl|trivial);have hER:=HER.out;rw[ZcM hRj.symm]at hER
           have hDOK:ZmW ⟨0,2,y,f,0⟩:=by
            intro z hz;simp only[List.mem_cons,List.not_mem_nil,or_false]at hz;rcases hz with rfl|rfl|rfl|rfl|rfl
            · omega
            · omega
            · exact HYY.out
            · exact HFF.out
            · omega
           have HPUT:=hid (ZbH h4 (by omega) ⟨0,2,y,f,0⟩ hDOK (HROW.out w5 t4) HT3.out.2.1 (by unfold maxLen;omega));have HMP:=hid (Za2 m4 ⟨0,2,y,f,0⟩ DL);have HWP:=hid (((ZbX T ⟨0,2,y,f,0⟩ DL).trans tw4).trans HSW.out);have HT4:=hid (HT3.out.1.trans t4);have HER2:=hid hER;clear hT h4 m4 tw4 t4 hRj hER HER hDOK HROW HT3;generalize putDoc T ⟨0,2,y,f,0⟩ DL=PD at HPUT HER2 HMP HWP;obtain⟨⟨pa,pb⟩,PS⟩:=PD;simp only at HPUT HER2 HMP HWP;go_wp2_with fail;refine HPUT.out.mono ?_;rintro u w6⟨rfl,h5,t5⟩;by_cases hb:pb=0
           · subst hb;have hR:=HER2.out.trans (if_pos rfl)
             have HE:=hid (show Zar w w6 X x p q r a (N+62) S R (.returned (.tuple #[.int .i64 pa,.bool b,.int .i64 0]))from by
              rw[hR]
              exact⟨PS,rfl,fun _=>rfl,h5.more (by omega),HMP.out.more (by omega),HWP.out,HT4.out.trans t5⟩)
             clear h5 t5 hR HPUT HER2 HMP HWP HT4;go_wp2_with fail
             go_ret3
             exact HE.out
           · have k1:(pb != 0)=true:=by simp[hb]
             have hR:=HER2.out.trans (if_neg hb)
             have HE:=hid (show Zar w w6 X x p q r a (N+62) S R (.returned (.tuple #[.int .i64 0,.bool false,.int .i64 pb]))from by
              rw[hR]
              exact⟨PS,rfl,fun h=>absurd h hb,h5.more (by omega),HMP.out.more (by omega),HWP.out,HT4.out.trans t5⟩)
             clear h5 t5 hR HPUT HER2 HMP HWP HT4 hb;go_wp2_with fail
             go_ret3
             exact HE.out
         · have k1:(ej != 0)=true:=by simp[he]
           have hR:=HER.out.trans (ZcL hRj.symm he)
           have HE:=hid (show Zar w w5 X x p q r a (N+62) S R (.returned (.tuple #[.int .i64 0,.bool false,.int .i64 ej]))from by
            rw[hR]
            exact⟨T,rfl,fun h=>absurd h he,h4.more (by omega),m4.more (by omega),tw4.trans HSW.out,HT3.out.1.trans t4⟩)
           clear hR h4 m4 tw4 t4 hT HER HROW HT3 he hRj;go_wp2_with fail
           go_ret3
           exact HE.out
       · have k1:(te != 0)=true:=by simp[hte]
         have hR:=E3.out hte
         have HE:=hid (show Zar w w4 X x p q r a (N+62) S R (.returned (.tuple #[.int .i64 0,.bool false,.int .i64 te]))from by
          rw[hR]
          exact⟨ST,rfl,fun h=>absurd h hte,rs4.more (by omega),ms4.more (by omega),tw4,HT13.out.trans tt4⟩)
         clear hR own4 rs4 ms4 tw4 tt4 hT E3 E4 HTO HT13 HS3 hte;go_wp2_with fail
         go_ret3
         exact HE.out
   · have HE:=hid (HBAD.out 1 w2 (by decide) (E.out.2.1 (by first|rfl|trivial) (by decide)) H2.out);clear E HP6 HBAD HLI HTAKE;go_wp2_with fail
     go_ret3
     exact HE.out
 · have k1:(yc != 0)=true:=by simp[h0]
   rw[if_neg h0];have HE:=hid (HBAD.out yc w2 h0 (E.out.1 h0) H2.out);clear E HP6 HBAD HLI HTAKE h0;go_wp2_with fail
   go_ret3
   exact HE.out
end
section
variable{w w' w0:World}{v m c x B N:Nat}{Y Z:Nat->Prop}{S T:VS}
theorem Duo.docOk(h:Duo Y w0 B N v m c x S S w){f:Int}{d:Dc}{st:List Dl}(hd:docGet S f=some (d,st)):∀z∈st,ZaE z:=by
 obtain⟨X,hX⟩:=h.view_;exact hX.docOk hd
end
end Go.Proofs.YtiknkbpojmgbhaaGreat
