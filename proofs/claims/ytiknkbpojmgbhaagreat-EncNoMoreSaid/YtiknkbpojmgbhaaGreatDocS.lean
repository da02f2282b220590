/- SeqG, DocR, DocS. Conditions: in each theorem. -/
import Derived.Test.YtiknkbpojmgbhaaGreatSeqS
import Derived.Test.YtiknkbpojmgbhaaGreatDocE
import Derived.Test.YtiknkbpojmgbhaaGreatRecF
set_option maxHeartbeats 12800000
set_option maxRecDepth 100000
set_option linter.unusedVariables false
open Go.Proofs.Tryz
open Go.Lib (hid)
namespace Go.Proofs.YtiknkbpojmgbhaaGreat
open Go.RowKit Go.Maps
structure Zk2(S:VS)(a b d:TL)(j:Nat):Prop where
 c:S.C.length<=j
 b:b.length<=j
 d:d.length<=j
 w:S.W = []
 kc:∀p∈S.C,p.1.length<=60
section
variable{S:VS}{a b d:TL}{j:Nat}
theorem Zk2.start:Zk2 ⟨[],[]⟩ [] [] [] 0:=⟨Nat.le_refl _,Nat.le_refl _,Nat.le_refl _,rfl,fun p (h:p∈([]:List (Txt×Option (List Int))))=>absurd h List.not_mem_nil⟩
end
theorem Z9.wider0_{w:World}{X X':Nat->Prop}{t:Nat}(h:Z9 w X t [])(hx:∀k,X k->X' k):Z9 w X' t []:=by
 obtain⟨A,n,c,h1,h2,h3⟩:=h;exact⟨A,n,c,h1,hx _ h2,h3.1,h3.2.1,fun hn=>by have:=h3.2.1;simp at this;omega⟩
theorem ZoM{w:World}{X:Nat->Prop}{x p q r:Nat}{a b d:TL}(h:ZH w X x p q r a b d)(hN:b.length<=2147483647)(hD:d.length<=2147483647){A A':Option Addr}{n k n' k':Nat}{l l':List Int}(hr:SV w X (.slice A n k) l)(hr':SV w X (.slice A' n' k') l') :
 Calls prog 118 #[.pointer (some ⟨x,0,none⟩),.agg #[.slice A n k,.slice A' n' k']] w fun e w'=>e=.returned (.tuple #[])/\
  ZH w' X x p q r a (if putE l l'=0 then Zaw b (tx l) l' else b) (if putE l l'=0 then Zaw d (tx l) []else d)/\Za (fun k=>k=q∨k=r) w w':=by
 have hba:RowKit.Below w.heap.size w (w.alloc (.cells #[.slice A n k,.slice A' n' k'] 101)):=(RowKit.Below.refl _ _).alloc (Nat.le_refl _) _;have c0:(w.alloc (.cells #[.slice A n k,.slice A' n' k'] 101)).cell? ⟨w.heap.size,0,none⟩=some (.slice A n k):=cell_of_row _ _ 0 _ _ (0,0) (heap_alloc_new w _);have c1:(w.alloc (.cells #[.slice A n k,.slice A' n' k'] 101)).cell? ⟨w.heap.size,1,none⟩=some (.slice A' n' k'):=cell_of_row _ _ 1 _ _ (0,0) (heap_alloc_new w _);have HP:=hid (Zcs (h.below hba) hN hD (hr.keep hba.size (fun _ _ h=>h) (fun k hk _=>hba.block k hk)) (hr'.keep hba.size (fun _ _ h=>h) (fun k hk _=>hba.block k hk)));generalize (if putE l l'=0 then Zaw b (tx l) l' else b)=b' at HP ⊢;generalize (if putE l l'=0 then Zaw d (tx l) []else d)=d' at HP ⊢;generalize putE l l'=pe at HP;have HB:=hid hba;clear h hr hr' hba;go_enter func118,ntmps118;go_wp2_with fail;refine HP.out.mono ?_;rintro e w2⟨rfl,h2,t2⟩;have HE:=hid (And.intro h2 ((Za.of_below HB.out).trans t2));clear h2 t2 HP HB c0 c1;go_wp2_with fail
 go_end0
 exact⟨rfl,HE.out⟩
def Zqz(w0:World)(B j:Nat)(v m c x:Nat)(w:World):Prop:=
 ∃(X:Nat->Prop) (p q r:Nat) (S:VS) (a b d:TL),Zqm w X v m c x p q r S a b d/\Zk2 S a b d j/\(∀k,X k->B<=k)/\RowKit.Below B w0 w
section
variable{w w0:World}{v m c x B j:Nat}
theorem Zm2{w1 w2:World}{v m c x p q r B:Nat}(hv:Ze w1 (fun k=>False∨k=v∨k=m∨k=c) v m c ⟨[],[]⟩)(hr:ZH w2 (fun k=>w1.heap.size<=k/\k<w2.heap.size) x p q r [] [] [])(hb:RowKit.Below w1.heap.size w1 w2)
 (h1:B<=v) (h2:B<=m) (h3:B<=c) (h4:B<=w1.heap.size):Zqz w2 B 0 v m c x w2:=by
 have hV:Ze w2 (fun k=>(k=v∨k=m∨k=c)∨(w1.heap.size<=k/\k<w2.heap.size)) v m c ⟨[],[]⟩:=
  hv.keep hb.size (fun k hk hn he=>by
   rcases he with he|he
   · exact hn (.inr he)
   · omega) (fun k hk=>by
   rcases hk with hk|hk
   · exact hk.elim
   · exact .inl hk) (fun k hk=>by
   rcases hk with hk|hk
   · exact Nat.lt_of_lt_of_le (hv.lt k (.inr hk)) hb.size
   · exact hk.2) (fun k hk _=>hb.block k hk)
 have hR:ZH w2 (fun k=>(k=v∨k=m∨k=c)∨(w1.heap.size<=k/\k<w2.heap.size)) x p q r [] [] []:=
  ⟨hr.me,.inr hr.own,hr.was.wider0_ fun k hk=>.inr hk,hr.now.wider0_ fun k hk=>.inr hk,hr.told.wider0_ fun k hk=>.inr hk,hr.apart,hV.lt⟩
 refine⟨_,p,q,r,_,_,_,_,⟨hV,hR,ZfM.start,fun i hi=>?_⟩,Zk2.start,fun k hk=>?_,RowKit.Below.refl _ _⟩
 · have hi1:=hv.lt i (.inr hi);have e1:=hr.own.1;have e2:=hr.was.own.1;have e3:=hr.now.own.1;have e4:=hr.told.own.1;omega
 · rcases hk with (hk|hk|hk)|hk
   · omega
   · omega
   · omega
   · omega
end
def ZP(w:World)(X:Nat->Prop)(x p q r:Nat)(a:TL)(S:VS)(N:Nat):Prop:=
 ∃b d,ZH w X x p q r a b d/\ZfM S a b d/\b.length<=N/\d.length<=N
section
variable{w w':World}{X:Nat->Prop}{x p q r N:Nat}{a:TL}{S:VS}
theorem ZP.below(h:ZP w X x p q r a S N)(hb:RowKit.Below w.heap.size w w'):ZP w' X x p q r a S N:=by
 obtain⟨b,d,h1,h2,h3,h4⟩:=h;exact⟨b,d,h1.below hb,h2,h3,h4⟩
theorem ZP.more{M:Nat}(h:ZP w X x p q r a S N)(hM:N<=M):ZP w X x p q r a S M:=by
 obtain⟨b,d,h1,h2,h3,h4⟩:=h;exact⟨b,d,h1,h2,Nat.le_trans h3 hM,Nat.le_trans h4 hM⟩
theorem ZP.old(h:ZP w X x p q r a S N):∀k,X k->k<w.heap.size:=by
 obtain⟨b,d,h1,h2,h3,h4⟩:=h;exact h1.old
theorem ZP.own(h:ZP w X x p q r a S N):X q/\X r:=by
 obtain⟨b,d,h1,h2,h3,h4⟩:=h;exact⟨h1.now.own,h1.told.own⟩
theorem ZeE(h:ZP w X x p q r a S N)(hN:N<=1000000000){A A':Option Addr}{n k n' k':Nat}{K V:List Int}(hk:SV w X (.slice A n k) K)(hv:SV w X (.slice A' n' k') V)(h0:putE K V=0) :
 Calls prog 118 #[.pointer (some ⟨x,0,none⟩),.agg #[.slice A n k,.slice A' n' k']] w fun e w'=>e=.returned (.tuple #[])/\ZP w' X x p q r a (S.put (tx K) V) (N+1)/\Za (fun k=>k=q∨k=r) w w':=by
 obtain⟨b,d,h1,h2,h3,h4⟩:=h
 have:=ZoM h1 (Nat.le_trans h3 (by omega)) (Nat.le_trans h4 (by omega)) hk hv
 rw[if_pos h0,if_pos h0]at this;refine this.mono ?_;rintro e w'⟨rfl,h5,h6⟩;exact⟨rfl,⟨_,_,h5,h2.put _ _,Nat.le_trans (ZL _ _ _) (Nat.succ_le_succ h3),Nat.le_trans (ZL _ _ _) (Nat.succ_le_succ h4)⟩,h6⟩
theorem Zae.svs{w0 w1:World}{e:Ending}{K V:List Int}(h:Zae w0 w1 e K V)(hX:∀k,X k->k<w0.heap.size)(hK:Zm K)(hV:Zm V)(hlk:K.length<=1000)(hlv:V.length<=1000):∃kA kc vA vc,e=.returned (.agg #[.slice kA K.length kc,.slice vA V.length vc])/\SV w1 X (.slice kA K.length kc) K/\SV w1 X (.slice vA V.length vc) V/\Below w0.heap.size w0 w1:=by
 obtain⟨kv,vv,rfl,hk,hv⟩:=h;obtain⟨kA,kc,rfl,hkc,hrk⟩:=hk.read hK;obtain⟨vA,vc,rfl,hvc,hrv⟩:=hv.read hV;exact⟨kA,kc,vA,vc,rfl,Za9 (Zeq hk hK (by omega)) hX (Below.refl _ _),Za9 (Zeq hv hV (by omega)) hX (Below.refl _ _),hk.2⟩
theorem Zif(y:Dl)(w:World):Calls prog 114 #[.agg #[.int .i64 y.nd,.int .i64 y.o,.int .i64 y.l,.int .i64 y.c]] w fun e w'=>e=.returned (.int .i64 (openL y))/\Below w.heap.size w w':=by
 have HB:=hid (show Below w.heap.size w (w.alloc (.cells #[.int .i64 y.nd,.int .i64 y.o,.int .i64 y.l,.int .i64 y.c] 50))from(Below.refl _ _).alloc (Nat.le_refl _) _);unfold openL;obtain⟨nd,o,l,c⟩:=y;simp only at HB ⊢;go_enter func114,ntmps114;go_wp2_with fail;go_ret;exact⟨rfl,HB.out⟩
end
theorem Zig{w w':World}{B:Nat}{A:Option Addr}{n:Nat}{l:List Dl}{F:Nat->Prop}(h:DlE.R w B A n l)(hB:B<=w.heap.size)(hF:∀k,F k->∀o z,w.cell? ⟨k,o,none⟩≠some (.int .i64 z))(ht:Za F w w'):DlE.R w' B A n l:=by
 refine⟨h.1,h.2.1,fun hn=>?_⟩;obtain⟨b,off,rfl,hb,hc⟩:=h.2.2 hn;refine⟨b,off,rfl,hb,fun j x hx k hk=>?_⟩;have hcell:=hc j x hx k hk;rw[<-hcell];refine World.cell?_of_block (a:=⟨b,off+j*DlE.K+k,none⟩) (ht.block b (Nat.lt_of_lt_of_le hb hB) fun e=>?_);have hk4:k<4:=hk
 have:∃z,(DlE.V x)[k]?=some (.int .i64 z):=by
  obtain rfl|rfl|rfl|rfl:k=0∨k=1∨k=2∨k=3:=by omega
  · exact⟨x.nd,rfl⟩
  · exact⟨x.o,rfl⟩
  · exact⟨x.l,rfl⟩
  · exact⟨x.c,rfl⟩
 obtain⟨z,hz⟩:=this;rw[hz]at hcell;exact hF b e _ z hcell
theorem Zih{w:World}{X:Nat->Prop}{t:Nat}{L:TL}(h:Z9 w X t L):∀o z,w.cell? ⟨t,o,none⟩≠some (.int .i64 z):=by
 obtain⟨A,n,c,h1,_⟩:=h;intro o z e;rw[cell_of_row w t o _ _ (0,0) h1]at e
 match o with
 | 0=>simp at e
 | o+1=>simp at e
section
variable{w w':World}{X:Nat->Prop}{x p q r N:Nat}{a:TL}{S:VS}
theorem ZP.noInt(h:ZP w X x p q r a S N):∀k,(k=q∨k=r)->∀o z,w.cell? ⟨k,o,none⟩≠some (.int .i64 z):=by
 obtain⟨b,d,h1,h2,h3,h4⟩:=h;rintro k (rfl|rfl)
 · exact Zih h1.now
 · exact Zih h1.told
theorem ZpP(h:ZP w X x p q r a S N)(hN:N<=1000000000)(n:Int)(hn : -9223372036854775808<=n/\n<=9223372036854775807) :
 Calls prog 117 #[.pointer (some ⟨x,0,none⟩),.int .i64 n] w fun e w'=>
  e=.returned (.tuple #[.int .i64 (nextE (seqV (S.now (tx (Zi 83 [n]))))).1,.int .i64 (nextE (seqV (S.now (tx (Zi 83 [n]))))).2])/\ZP w' X x p q r a (S.next n) (N+1)/\Za (fun k=>k=q∨k=r) w w':=by
 obtain⟨b,d,h1,h2,h3,h4⟩:=h
 have:=Zn9 h1 (Nat.le_trans h3 (by omega)) (Nat.le_trans h4 (by omega)) n hn
 rw[h2.now]at this;refine this.mono ?_;rintro e w'⟨rfl,h5,h6⟩;refine⟨rfl,?_,h6⟩;unfold VS.next;by_cases hc:seqV (S.now (tx (Zi 83 [n])))<0∨seqV (S.now (tx (Zi 83 [n])))≥4294967295
 · rw[if_pos hc,if_pos hc]at h5;rw[if_pos hc];exact⟨_,_,h5,h2,Nat.le_succ_of_le h3,Nat.le_succ_of_le h4⟩
 · rw[if_neg hc,if_neg hc]at h5;rw[if_neg hc];exact⟨_,_,h5,h2.put _ _,Nat.le_trans (ZL _ _ _) (Nat.succ_le_succ h3),Nat.le_trans (ZL _ _ _) (Nat.succ_le_succ h4)⟩
theorem ZeZ(h:ZP w X x p q r a S N)(hN:N<=1000000000){kA vA:Option Addr}{kc vc:Nat}(i j:Int)(y:Dl)(hk:SV w X (.slice kA 9 kc) (Zi 76 [i,j]))(hv:SV w X (.slice vA 32 vc) (Zj 8 [y.nd,y.o,y.l,y.c])) :
 Calls prog 118 #[.pointer (some ⟨x,0,none⟩),.agg #[.slice kA 9 kc,.slice vA 32 vc]] w fun e w'=>e=.returned (.tuple #[])/\ZP w' X x p q r a (S.putL i j y) (N+1)/\Za (fun k=>k=q∨k=r) w w':=
 ZeE h hN hk hv (Zh9 i j y)
theorem ZlG(h:ZP w X x p q r a S N)(hN:N<=1000000000){kA vA:Option Addr}{kc vc:Nat}(y:Dc)(hk:SV w X (.slice kA 5 kc) (Zi 68 [y.i]))(hv:SV w X (.slice vA 32 vc) (Zj 8 [y.k,y.y,y.f,y.n])) :
 Calls prog 118 #[.pointer (some ⟨x,0,none⟩),.agg #[.slice kA 5 kc,.slice vA 32 vc]] w fun e w'=>e=.returned (.tuple #[])/\ZP w' X x p q r a (S.putD y) (N+1)/\Za (fun k=>k=q∨k=r) w w':=
 ZeE h hN hk hv (Zk0 y)
theorem ZbH(h:ZP w X x p q r a S N)(hN:N<=1000000)(d:Dc)(hd:ZmW d){A:Option Addr}{n cap:Nat}{l:List Dl}(hr:DlE.R w w.heap.size A n l)(hcap:n<=cap)(hn:n<=maxLen) :
 Calls prog 60 #[.pointer (some ⟨x,0,none⟩),.agg #[.int .i64 d.i,.int .i64 d.k,.int .i64 d.y,.int .i64 d.f,.int .i64 d.n],.slice A n cap] w fun e w'=>e=.returned (.tuple #[.int .i64 (putDoc S d l).1.1,.int .i64 (putDoc S d l).1.2])/\ZP w' X x p q r a (putDoc S d l).2 (N+8)/\Za (fun k=>k=q∨k=r) w w':=by
 unfold maxLen at hn;obtain⟨w1,hw1⟩:∃w1,w1=w.alloc (.cells #[.int .i64 d.i,.int .i64 d.k,.int .i64 d.y,.int .i64 d.f,.int .i64 d.n] 44):=⟨_,rfl⟩
 have hb1:Below w.heap.size w w1:=by rw[hw1];exact(Below.refl _ _).alloc (Nat.le_refl _) _
 have hs1:w1.heap.size=w.heap.size+1:=by rw[hw1];simp
 have hblk:w1.heap[w.heap.size]?=some (.cells #[.int .i64 d.i,.int .i64 d.k,.int .i64 d.y,.int .i64 d.f,.int .i64 d.n] 44 (0,0)):=by rw[hw1];exact heap_alloc_new w _
 have hqr:q<w.heap.size/\r<w.heap.size:=⟨h.old q h.own.1,h.old r h.own.2⟩
 have hlen:l.length=n:=hr.len;have h1:=h.below hb1;have HV1:=hid h1;have HR1:=hid ((hr.below hb1).more hb1.size);have HBK:=hid (And.intro hblk hs1);have HQR:=hid hqr;have HT1:=hid (Za.of_below (F:=fun k=>k=q∨k=r) hb1);have e1:n<1∨n>6->putDoc S d l=((0,1),S):=fun h=>by unfold putDoc;rw[hlen,if_pos h]
 have e2:¬(n<1∨n>6)->(nextE (seqV (S.now (tx (Zi 83 [2]))))).2≠0->putDoc S d l=((0,9),S):=fun h g=>by unfold putDoc;rw[hlen,if_neg h,if_neg g]
 have e3:¬(n<1∨n>6)->(nextE (seqV (S.now (tx (Zi 83 [2]))))).2=0->putDoc S d l=((seqV (S.now (tx (Zi 83 [2])))+1,0),(putLs (S.next 2) (seqV (S.now (tx (Zi 83 [2])))+1) 0 l).putD ⟨seqV (S.now (tx (Zi 83 [2])))+1,d.k,d.y,d.f,n⟩):=fun h g=>by unfold putDoc;rw[hlen,if_neg h,if_pos g]
 have HNX:=ZpP h1 (by omega) 2 (by omega);have b1:=fun(g:(nextE (seqV (S.now (tx (Zi 83 [2]))))).2≠0)=>ZkZ (S:=S) (n:=2) g
 have b2:=fun(g:(nextE (seqV (S.now (tx (Zi 83 [2]))))).2=0)=>Zg2 (S:=S) (n:=2) g
 generalize seqV (S.now (tx (Zi 83 [2])))=z at HNX e2 e3 b1 b2;generalize putDoc S d l=res at e1 e2 e3 ⊢;have E:=hid (And.intro e1 (And.intro e2 e3));have HB12:=hid (And.intro b1 b2);have HNX:=hid HNX;have HLEN:=hid (And.intro hlen hd);clear e1 e2 e3 b1 b2 h h1 hr hlen hd hb1 hs1 hblk hqr;by_cases g1:n<1
 · have k1:decide ((n:Int)<1)=true:=decide_eq_true (by omega);obtain rfl:=E.out.1 (.inl g1);have HE:=hid (And.intro (HV1.out.more (show N<=N+8 by omega)) HT1.out);clear E HB12 HNX g1;go_enter func60,ntmps60;go_wp2_with fail;rw[<-hw1];go_ret2;exact⟨rfl,HE.out⟩
 have k1:decide ((n:Int)<1)=false:=decide_eq_false (by omega);by_cases g2:n>6
 · have k2:decide ((n:Int)>6)=true:=decide_eq_true (by omega);obtain rfl:=E.out.1 (.inr g2);have HE:=hid (And.intro (HV1.out.more (show N<=N+8 by omega)) HT1.out);clear E HB12 HNX g1 g2;go_enter func60,ntmps60;go_wp2_with fail;rw[<-hw1];go_ret2;exact⟨rfl,HE.out⟩
 have k2:decide ((n:Int)>6)=false:=decide_eq_false (by omega);have hn6:¬(n<1∨n>6):=by omega
 have E2:=hid (E.out.2.1 hn6);have E3:=hid (E.out.2.2 hn6);have hn6':n<=6:=by omega
 clear E hn6 g1;go_enter func60,ntmps60;go_wp2_with fail;rw[<-hw1];clear hw1;refine HNX.out.mono ?_;rintro e w2⟨rfl,h2,t2⟩;by_cases hz:(nextE z).2=0
 · obtain⟨hz1,hz2,hz3⟩:=HB12.out.2 hz;rw[hz1];obtain rfl:=E3.out hz;have hs2:w1.heap.size<=w2.heap.size:=t2.size;have hblk2:w2.heap[w.heap.size]?=some (.cells #[.int .i64 d.i,.int .i64 d.k,.int .i64 d.y,.int .i64 d.f,.int .i64 d.n] 44 (0,0)):=(t2.block _ (by have:=HBK.out.2;omega) (by have:=HQR.out;omega)).trans HBK.out.1;have hr2:=(Zig HR1.out (Nat.le_refl _) HV1.out.noInt t2).more hs2;have hni:=h2.noInt;have HT2:=hid (HT1.out.trans t2)
   have HST:=hid (show ∀W,Za (fun k=>k=q∨k=r) w2 W->W.heap[w.heap.size]?=some (.cells #[.int .i64 d.i,.int .i64 d.k,.int .i64 d.y,.int .i64 d.f,.int .i64 d.n] 44 (0,0))/\DlE.R W w2.heap.size A n l/\Za (fun k=>k=q∨k=r) w W from fun W hW=>
    ⟨(hW.block w.heap.size (by have:=HBK.out.2;omega) (by have:=HQR.out;omega)).trans hblk2,Zig hr2 (Nat.le_refl _) hni hW,HT2.out.trans hW⟩)
   have HV2:=hid h2;have HQ:=hid (And.intro hz2 (And.intro hz3 (show -9223372036854775808<=z+1/\z+1<=9223372036854775807 by omega)));have k0:((0:Int) != 0)=false:=rfl;clear h2 t2 hr2 hni hs2 hblk2 HNX HB12 E2 E3 HT1 HV1 HR1 hz hz1 HT2;obtain⟨i,hi⟩:∃i,i=z+1:=⟨_,rfl⟩
   rw[<-hi]at HQ ⊢;have HI:=hid hi;clear hi;go_wp2_with fail
   go_loopw[10] (fun iv wr=>∃j:Nat,j<=n/\iv=.int .i64 j/\Hid (ZP wr X x p q r a (putLs (S.next 2) i 0 (l.take j)) (N+1+j)/\Za (fun k=>k=q∨k=r) w2 wr)) (fun iv _=>n-(intOf iv).toNat)
   case atStart=>exact⟨0,Nat.zero_le _,rfl,hid ⟨by rw[List.take_zero];exact HV2.out,Za.refl _ _⟩⟩
   case round=>
    clear HV2;obtain⟨j,hj,rfl,HJ⟩:=hrel;by_cases hlt:j<n
    · have hlt':(j:Int)<(n:Int):=by omega
      have hj0:(0:Int)<=(j:Int):=by omega
      obtain⟨hvw,htw⟩:=HJ.out;obtain⟨_,hrw,_⟩:=HST.out wr htw;obtain⟨y,hx⟩:∃y,l[j]?=some y:=⟨_,List.getElem?_eq_getElem (by rw[HLEN.out.1];exact hlt)⟩
      have hxok:=hrw.ok y (List.mem_of_getElem? hx);obtain⟨b,off,rfl,hb,c0,c1,c2,c3⟩:=ZlF hrw hx;have hps:=Zf1 (S.next 2) i hx
      have hin:ZbL [y.nd,y.o,y.l,y.c,i,(j:Int)]:=by
       intro u hu;simp only[List.mem_cons,List.not_mem_nil,or_false]at hu;rcases hu with rfl|rfl|rfl|rfl|rfl|rfl
       · exact hxok _ (by simp)
       · exact hxok _ (by simp)
       · exact hxok _ (by simp)
       · exact hxok _ (by simp)
       · exact HQ.out.2.2
       · omega
      have HDL:=hid (ZcZ i (j:Int) y.nd y.o y.l y.c wr hin);have HVB:=hid (And.intro hvw (And.intro htw hps));clear hvw htw hrw hx hxok hps hin HJ hb;go_wp2_with fail;refine HDL.out.mono ?_;rintro e w4 hp;obtain⟨kA,kc,vA,vc,rfl,hk,hv,hb4⟩:=hp.svs HVB.out.1.old (Zk (by omega) _) (Zz _ _) (by rw[Zeb];omega) (by rw[Zh];simp);have e32:(Zj 8 [y.nd,y.o,y.l,y.c]).length=32:=by rw[Zh];rfl
      rw[Zeb]at hk ⊢;rw[e32]at hv ⊢;have HSL:=hid (ZeZ (HVB.out.1.below hb4) (by omega) i (j:Int) y hk hv);have HT4:=hid (HVB.out.2.1.trans (Za.of_below (F:=fun k=>k=q∨k=r) hb4));clear hp hk hv hb4 e32 HDL c0 c1 c2 c3;go_wp2_with fail;refine HSL.out.mono ?_;rintro e w5⟨rfl,h5,t5⟩;have HJ:=hid (show ZP w5 X x p q r a (putLs (S.next 2) i 0 (l.take (j+1))) (N+1+(j+1))/\Za (fun k=>k=q∨k=r) w2 w5 from⟨by rw[HVB.out.2.2];exact h5,HT4.out.trans t5⟩);clear h5 t5 HSL HT4 HVB;go_wp2_with fail;go_roundw
      case rel=>exact⟨j+1,by omega,by go_num,HJ⟩
      case measure=>simp[intOf];omega
    · obtain rfl:j=n:=by omega
      obtain⟨hvw,htw⟩:=HJ.out;rw[show l.take j=l by rw[<-HLEN.out.1,List.take_length]]at hvw;obtain⟨hdb,_,htt⟩:=HST.out wr htw;have d1:wr.cell? ⟨w.heap.size,1,none⟩=some (.int .i64 d.k):=by rw[cell_of_row wr _ 1 _ _ (0,0) hdb];rfl
      have d2:wr.cell? ⟨w.heap.size,2,none⟩=some (.int .i64 d.y):=by rw[cell_of_row wr _ 2 _ _ (0,0) hdb];rfl
      have d3:wr.cell? ⟨w.heap.size,3,none⟩=some (.int .i64 d.f):=by rw[cell_of_row wr _ 3 _ _ (0,0) hdb];rfl
      have hin:ZbL [i,d.k,d.y,d.f,(j:Int)]:=by
       intro u hu;have hdok:=HLEN.out.2;simp only[List.mem_cons,List.not_mem_nil,or_false]at hu;rcases hu with rfl|rfl|rfl|rfl|rfl
       · exact HQ.out.2.2
       · exact hdok _ (by simp)
       · exact hdok _ (by simp)
       · exact hdok _ (by simp)
       · omega
      have HDL:=hid (Zml i d.k d.y d.f (j:Int) wr hin);have HVB:=hid (And.intro hvw htt);clear hvw htw htt hdb hin HJ HST;go_wp2_with fail;refine HDL.out.mono ?_;rintro e w4 hp;obtain⟨kA,kc,vA,vc,rfl,hk,hv,hb4⟩:=hp.svs HVB.out.1.old (Zk (by omega) _) (Zz _ _) (by rw[Zh8];omega) (by rw[Zh];simp);have e32:(Zj 8 [d.k,d.y,d.f,(j:Int)]).length=32:=by rw[Zh];rfl
      rw[Zh8]at hk ⊢;rw[e32]at hv ⊢;have HSL:=hid (ZlG (HVB.out.1.below hb4) (by omega) ⟨i,d.k,d.y,d.f,(j:Int)⟩ hk hv);have HT4:=hid (HVB.out.2.trans (Za.of_below (F:=fun k=>k=q∨k=r) hb4));clear hp hk hv hb4 e32 HDL d1 d2 d3 HVB;go_wp2_with fail;refine HSL.out.mono ?_;rintro e w5⟨rfl,h5,t5⟩;have HE:=hid (And.intro (h5.more (show N+1+j+1<=N+8 by omega)) (HT4.out.trans t5));clear h5 t5 HSL HT4;go_wp2_with fail;go_ret2;exact⟨congrArg (fun z=>Ending.returned (Value.tuple #[.int .i64 z,.int .i64 0])) HI.out,by rw[<-HI.out];exact HE.out⟩
 · have hb:=HB12.out.1 hz;rw[hb.2];have hE2:=E2.out hz;subst hE2;rw[hb.1]at h2;have k9:((9:Int) != 0)=true:=rfl;have HE:=hid (And.intro (h2.more (show N+1<=N+8 by omega)) (HT1.out.trans t2));clear hb h2 t2 HNX HB12 E2 E3 hz;go_wp2_with fail;go_ret2;exact⟨rfl,HE.out⟩
end
end Go.Proofs.YtiknkbpojmgbhaaGreat
