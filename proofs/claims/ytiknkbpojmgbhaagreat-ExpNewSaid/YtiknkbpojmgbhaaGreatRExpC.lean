/- RExpA, RExpB, RExpT, RExpC. Conditions: in each theorem. -/
import Derived.Test.YtiknkbpojmgbhaaGreatExpB
import Derived.Test.YtiknkbpojmgbhaaGreatTreS
import Derived.Test.YtiknkbpojmgbhaaGreatDocS
import Derived.Test.YtiknkbpojmgbhaaGreatPreG
import Derived.Test.YtiknkbpojmgbhaaGreatREnu
import Derived.Test.YtiknkbpojmgbhaaGreatExpF
import Derived.Test.YtiknkbpojmgbhaaGreatEncI
set_option maxHeartbeats 25600000
set_option maxRecDepth 100000
set_option linter.unusedVariables false
open Go.Proofs.Tryz
open Go.Lib (hid)
namespace Go.Proofs.YtiknkbpojmgbhaaGreat
open Go.RowKit Go.Maps
section
variable{w w':World}{X:Nat->Prop}{x p q r N:Nat}{a:TL}{S:VS}
theorem Zn0(h:ZP w X x p q r a S N)(hN:N<=1000000000)(y i:Int)(hy:ZS y)(hi:ZS i) :
 Calls prog 63 #[.pointer (some ⟨x,0,none⟩),.int .i64 y,.int .i64 i] w fun e w'=>e=.returned (.tuple #[ndW (nodeAt S y i),.bool (nodeAt S y i).isSome])/\Zjn (nodeAt S y i)/\Below w.heap.size w w':=by
 obtain⟨b,d,h1,h2,h3,h4⟩:=h;exact Zjr h1 h2.now (Nat.le_trans h3 (by omega)) y i hy hi
theorem Zcf(h:ZP w X x p q r a S N)(hN:N<=1000000000)(y:Int)(hy:ZS y){A:Option Addr}{n cap:Nat}{l:List Dl}(hl:DlE.R w w.heap.size A n l)(hn:n<=1000) :
 Calls prog 27 #[.pointer (some ⟨x,0,none⟩),.int .i64 y,.slice A n cap] w fun e w'=>∃u,e=.returned u/\Z8 w' w.heap.size u (jLines S y l)/\(∀z∈jLines S y l,Za7 z)/\Below w.heap.size w w':=by
 have HL:=hid hl;have HV:=hid h;have hlen:=hl.len;clear h hl;go_enter func27,ntmps27;go_wp2_with fail
 go_loopw[7,8] (fun uv iv wr=>∃j:Nat,j<=n/\iv=.int .i64 j/\(∃A' j' k',uv=.slice A' j' k')/\Hid (Z8 wr w.heap.size uv (jLines S y (l.take j))/\(∀z∈jLines S y (l.take j),Za7 z)/\Below w.heap.size w wr)) (fun _ iv _=>n-(intOf iv).toNat)
 case atStart=>exact⟨0,Nat.zero_le _,rfl,⟨none,0,0,rfl⟩,hid ⟨Z8.start _ _,(fun z hz=>by cases hz),Below.refl _ _⟩⟩
 case round=>
  obtain⟨j,hj,rfl,⟨A',j',k',rfl⟩,HJ⟩:=hrel;by_cases hlt:j<n
  · have hlt':(j:Int)<(n:Int):=by omega
    have hj0:(0:Int)<=(j:Int):=by omega
    obtain⟨hown,hoks,hbw⟩:=HJ.out;obtain⟨x,hx⟩:∃x,l[j]?=some x:=⟨_,List.getElem?_eq_getElem (by rw[hlen];exact hlt)⟩
    have hxok:=HL.out.ok x (List.mem_of_getElem? hx);obtain⟨b,off,rfl,hb,c0,c1,c2,c3⟩:=ZlF (HL.out.below hbw) hx;have HG:=hid (Zn0 (HV.out.below hbw) hN y x.nd hy (hxok _ (by simp)));have hst:jLines S y (l.take (j+1))=jLines S y (l.take j)++ZcW S y x:=Zfg hx
    have hjl:ZcW S y x=match nodeAt S y x.nd with
     | none=>[]
     | some n=>[⟨n.f,n.o,0,x.o⟩,⟨n.f,1010,0,wrap64 (-x.o)⟩]:=rfl
    have hll:(jLines S y (l.take j)).length<=2000:=by
     have:=ZaR S y (l.take j)
     rw[List.length_take]at this;omega
    have HB:=hid (show Below w.heap.size w wr from hbw);have HO:=hid (And.intro hown (And.intro hll (And.intro hst hoks)));have C1:=hid (show ∀W,Below wr.heap.size wr W->W.cell? ⟨b,off+j*4+1,none⟩=some (.int .i64 x.o)from fun W hW=>(hW.cell (p:=⟨b,off+j*4+1,none⟩) (Nat.lt_of_lt_of_le hb hbw.size)).trans c1);have HBL:=hid hb;have HXO:=hid (show B64 x.o from hxok _ (by simp));clear hown hbw hx hb hll hst HJ hxok hoks;obtain⟨o,ho⟩:∃o,o=nodeAt S y x.nd:=⟨_,rfl⟩
    rw[<-ho]at HG hjl;clear ho;obtain⟨xn,xo,xl,xc⟩:=x;simp only at c0 c1 c2 c3 HG hjl HO C1 HXO;go_wp2_with fail;clear c0 c1 c2 c3;refine HG.out.mono ?_;rintro e w3⟨rfl,hni,hb3⟩;clear HG;cases o with
    | none=>
     have HJ2:=hid (show Z8 (w3.alloc (.cells #[.int .i64 0,.int .i64 0,.int .i64 0,.int .i64 0,.int .i64 0,.bool false,.int .i64 0,.int .i64 0,.int .i64 0,.int .i64 0,.int .i64 0,.int .i64 0] 40 (0,0))) w.heap.size (.slice A' j' k') (jLines S y (l.take (j+1)))/\(∀z∈jLines S y (l.take (j+1)),Za7 z)/\Below w.heap.size w (w3.alloc (.cells #[.int .i64 0,.int .i64 0,.int .i64 0,.int .i64 0,.int .i64 0,.bool false,.int .i64 0,.int .i64 0,.int .i64 0,.int .i64 0,.int .i64 0,.int .i64 0] 40 (0,0)))from by
      have hb4:Below wr.heap.size wr (w3.alloc (.cells #[.int .i64 0,.int .i64 0,.int .i64 0,.int .i64 0,.int .i64 0,.bool false,.int .i64 0,.int .i64 0,.int .i64 0,.int .i64 0,.int .i64 0,.int .i64 0] 40 (0,0))):=hb3.trans (((Below.refl w3.heap.size w3).alloc (Nat.le_refl _) _).mono hb3.size);rw[HO.out.2.2.1,hjl,List.append_nil]
      exact⟨HO.out.1.below hb4,HO.out.2.2.2,HB.out.trans (hb4.mono HB.out.size)⟩)
     clear hb3 hni HO HB C1 hjl;simp only[ndW,ndO,Option.getD_none,Zd1,Option.isSome_none];go_wp2_with fail;go_roundw
     case rel=>exact⟨j+1,by omega,by go_num,⟨A',j',k',rfl⟩,HJ2⟩
     case measure=>simp[intOf];omega
    | some nd=>
     obtain⟨w4,hw4⟩:∃w4,w4=w3.alloc (.cells #[.int .i64 nd.y,.int .i64 nd.i,.int .i64 nd.p,.int .i64 nd.f,.int .i64 nd.o,.bool nd.ab,.int .i64 nd.li,.int .i64 nd.pr,.int .i64 nd.en,.int .i64 nd.ex,.int .i64 nd.la,.int .i64 nd.ca] 40 (0,0)):=⟨_,rfl⟩
     have hb4:Below w3.heap.size w3 w4:=by rw[hw4];exact(Below.refl _ _).alloc (Nat.le_refl _) _
     have hblk4:w4.heap[w3.heap.size]?=some (.cells #[.int .i64 nd.y,.int .i64 nd.i,.int .i64 nd.p,.int .i64 nd.f,.int .i64 nd.o,.bool nd.ab,.int .i64 nd.li,.int .i64 nd.pr,.int .i64 nd.en,.int .i64 nd.ex,.int .i64 nd.la,.int .i64 nd.ca] 40 (0,0)):=by rw[hw4];exact heap_alloc_new w3 _
     have KK:=hid (show ∀W,Below w4.heap.size w4 W->W.cell? ⟨w3.heap.size,3,none⟩=some (.int .i64 nd.f)/\W.cell? ⟨w3.heap.size,4,none⟩=some (.int .i64 nd.o)/\W.cell? ⟨b,off+j*4+1,none⟩=some (.int .i64 xo)from fun W hW=>by
      have hbk:=(hW.block w3.heap.size (Array.getElem?_eq_some_iff.1 hblk4).1).trans hblk4
      exact⟨cell_of_row W _ 3 _ _ (0,0) hbk,cell_of_row W _ 4 _ _ (0,0) hbk,C1.out _ ((hb3.trans (hb4.mono hb3.size)).trans (hW.mono (hb3.trans (hb4.mono hb3.size)).size))⟩)
     have f3:w4.drew.cell? ⟨w3.heap.size,3,none⟩=some (.int .i64 nd.f):=cell_of_row w4 _ 3 _ _ (0,0) hblk4;have f4:w4.drew.cell? ⟨w3.heap.size,4,none⟩=some (.int .i64 nd.o):=cell_of_row w4 _ 4 _ _ (0,0) hblk4;have hb34:=hb3.trans (hb4.mono hb3.size);have g1:w4.drew.cell? ⟨b,off+j*4+1,none⟩=some (.int .i64 xo):=C1.out _ hb34.drew;obtain⟨neg,hneg⟩:∃neg,neg=wrap64 (-xo):=⟨_,rfl⟩
     have hneg':IntKind.i64.wrap (-xo)=neg:=(Zb8 _).trans hneg.symm;have hnd:ZbR nd:=hni nd rfl;have l1:Za7 ⟨nd.f,nd.o,0,xo⟩:=⟨hnd _ (by simp),hnd _ (by simp),by show B64 0;unfold B64;omega,HXO.out⟩
     have l2:Za7 ⟨nd.f,1010,0,neg⟩:=⟨hnd _ (by simp),by show B64 1010;unfold B64;omega,by show B64 0;unfold B64;omega,by show B64 neg;rw[hneg];unfold wrap64 B64;omega⟩
     rw[<-hneg]at hjl;have hr5:=Zip (w:=w4) (x:=⟨nd.f,nd.o,0,xo⟩) (z:=⟨nd.f,1010,0,neg⟩) (T:=34) l1 l2;have hb5:Below w4.heap.size w4 (w4.alloc (.cells #[.int .i64 nd.f,.int .i64 nd.o,.int .i64 0,.int .i64 xo,.int .i64 nd.f,.int .i64 1010,.int .i64 0,.int .i64 neg] 34 (0,0))).drew:=((Below.refl _ _).alloc (Nat.le_refl _) _).drew;have hr5':RL (w4.alloc (.cells #[.int .i64 nd.f,.int .i64 nd.o,.int .i64 0,.int .i64 xo,.int .i64 nd.f,.int .i64 1010,.int .i64 0,.int .i64 neg] 34 (0,0))).drew (w4.heap.size+1) (some ⟨w4.heap.size,0,none⟩) 2 [⟨nd.f,nd.o,0,xo⟩,⟨nd.f,1010,0,neg⟩]:=hr5;have hb35:=hb34.trans (hb5.mono hb34.size);obtain⟨v',w6,hrun,hown6,hb6,hgr,hgn⟩:=((HO.out.1).below hb35).appendL (c:=2) hr5' (by have:=HO.out.2.1;omega) (by omega) (Nat.le_trans HB.out.size hb35.size) 35;obtain⟨A6,k6,rfl,hk6⟩:=hown6.shape;have HRUN:=hid hrun
     have S6:=hid (show w6.cell? ⟨w3.heap.size,3,none⟩=some (.int .i64 nd.f)/\w6.cell? ⟨w3.heap.size,4,none⟩=some (.int .i64 nd.o)/\w6.cell? ⟨b,off+j*4+1,none⟩=some (.int .i64 xo)from by
      obtain⟨a1,a2,a3⟩:=KK.out _ hb5;have hlt3:w3.heap.size<(w4.alloc (.cells #[.int .i64 nd.f,.int .i64 nd.o,.int .i64 0,.int .i64 xo,.int .i64 nd.f,.int .i64 1010,.int .i64 0,.int .i64 neg] 34 (0,0))).drew.heap.size:=Nat.lt_of_lt_of_le (Array.getElem?_eq_some_iff.1 hblk4).1 hb5.size;have hk:=hgr.block w3.heap.size hlt3 (fun e=>by have:=(HO.out.1.at_ _ e.symm).2;have:=hb3.size;omega);have hk2:=hb6.block b (Nat.lt_of_lt_of_le HBL.out (Nat.le_refl _))
      exact⟨(World.cell?_of_block (a:=⟨w3.heap.size,3,none⟩) hk).trans a1,(World.cell?_of_block (a:=⟨w3.heap.size,4,none⟩) hk).trans a2,(World.cell?_of_block (a:=⟨b,off+j*4+1,none⟩) hk2).trans a3⟩)
     obtain⟨LN,hLN⟩:∃LN,LN=(jLines S y (l.take j)++[(⟨nd.f,nd.o,0,xo⟩:Ln),⟨nd.f,1010,0,neg⟩]).length:=⟨_,rfl⟩
     rw[<-hLN]at HRUN
     have HJ2:=hid (show Z8 w6 w.heap.size (.slice A6 LN k6) (jLines S y (l.take (j+1)))/\(∀z∈jLines S y (l.take (j+1)),Za7 z)/\Below w.heap.size w w6 from by
      rw[HO.out.2.2.1,hjl,hLN];refine⟨hown6,fun z hz=>?_,HB.out.trans ((hb35.mono HB.out.size).trans hb6)⟩;rcases List.mem_append.1 hz with hz|hz
      · exact HO.out.2.2.2 z hz
      · rcases List.mem_cons.1 hz with rfl|hz
        · exact l1
        · obtain rfl:=List.mem_singleton.1 hz
          exact l2)
     clear hb3 hni HO HB C1 hjl hrun hown6 hb6 hgr hgn hk6 hr5 hr5' hb5 hb35 hb34 hb4 hblk4 hneg l1 l2 hLN hnd HXO HBL;obtain⟨dy,di,dp,df,do_,dab,dli,dpr,den,dex,dla,dca⟩:=nd;simp only at HRUN hw4 f3 f4;simp only at KK S6;have c5:w4.drew.cell? ⟨w3.heap.size,3,none⟩=some (.int .i64 df)/\w4.drew.cell? ⟨w3.heap.size,4,none⟩=some (.int .i64 do_)/\w4.drew.cell? ⟨b,off+j*4+1,none⟩=some (.int .i64 xo):=⟨f3,f4,g1⟩
     clear f3 f4 g1;have HW4:=hid hw4;simp only[ndW,ndO,Option.getD_some,Option.isSome_some];go_wp2_with fail;rw[<-hw4];clear hw4
     go_region_held3 (fun W=>W.cell? ⟨w3.heap.size,3,none⟩=some (.int .i64 df)/\W.cell? ⟨w3.heap.size,4,none⟩=some (.int .i64 do_)/\W.cell? ⟨b,off+j*4+1,none⟩=some (.int .i64 xo))
      (first|with_reducible exact c5|exact c5|exact KK.out _ (((Below.refl _ _).alloc (Nat.le_refl _) _).drew))
      (first|(refine Zcq rfl (.tmp 29) (.tmp 49) _ _ rfl _ _ (by rfl) (by rfl) HRUN.out ?_;have c5:=S6.out))
     all_goals
      clear HRUN c5 KK S6 HW4;go_wp2_with fail;go_roundw
      case rel=>exact⟨j+1,by omega,by go_num,⟨A6,LN,k6,rfl⟩,HJ2⟩
      case measure=>simp[intOf];omega
  · obtain rfl:j=n:=by omega
    have htk:l.take j=l:=List.take_of_length_le (by omega);have HE:=hid HJ.out;rw[htk]at HE;clear HJ htk;go_wp2_with fail;go_ret;exact⟨_,rfl,HE.out⟩
end
section
variable{w w':World}{X:Nat->Prop}{x p q r N:Nat}{a:TL}{S:VS}
theorem ZP.own_new(h:ZP w X x p q r a S N)(hb:RowKit.Below w.heap.size w w'):ZP w' (fun k=>X k∨(w.heap.size<=k/\k<w'.heap.size)) x p q r a S N:=by
 obtain⟨b,d,g1,g2,g3,g4⟩:=h
 exact⟨b,d,g1.keep hb.size (fun k hk hn he=>by rcases he with he|he;exact hn he;omega) (fun k hk=>.inl hk) (fun k hk=>by
  rcases hk with hk|hk
  · exact Nat.lt_of_lt_of_le (g1.old k hk) hb.size
  · exact hk.2) (fun k hk hh=>hb.block k hk),g2,g3,g4⟩
theorem ZP.boxSet(h:ZP w X x p q r a S N){g:Nat}(hg:X g)(h1:g≠x/\g≠p/\g≠q/\g≠r)(i:Nat)(z:Value):ZP (w.setCell ⟨g,i,none⟩ z) X x p q r a S N:=by
 obtain⟨b,d,g1,g2,g3,g4⟩:=h;refine⟨b,d,g1.keep (by simp) (fun _ _ h=>h) (fun _ h=>h) (fun k hk=>by have:=g1.old k hk;simpa using this) (fun k hk hh=>heap_setCell_other _ _ _ _ (fun e=>?_)),g2,g3,g4⟩;subst e;rcases hh with hh|hh|hh|hh|hh
 · exact h1.1 hh
 · exact h1.2.1 hh
 · exact h1.2.2.1 hh
 · exact h1.2.2.2 hh
 · exact hh hg
end
def Zi5(w w':World)(X:Nat->Prop)(x p q r:Nat)(a:TL)(N:Nat)(S:VS)(R:(List Dl×Int)×VS)(e:Ending):Prop:=
 ∃(u:Value) (T:VS),e=.returned (.tuple #[u,.int .i64 R.1.2])/\(R.1.2=0->T=R.2)/\DlE.Own 50 w' w.heap.size u R.1.1/\(∃X',(∀k,X k->X' k)/\(∀b,u.ownBlock=some b->X' b)/\ZP w' X' x p q r a T N)/\Zv T N/\T.W=S.W/\Za (fun k=>k=q∨k=r) w w'
section
variable{w w':World}{X:Nat->Prop}{x p q r N:Nat}{a:TL}{S:VS}
theorem Zmi(h:ZP w X x p q r a S N)(hm:Zv S N)(hN:N<=100000)(k y f:Int)(hf:ZS f){A:Option Addr}{n cap:Nat}{l:List Ln}(hl:∀W,Za (fun k=>k=q∨k=r) w W->RL W W.heap.size A n l)(hn:n<=1000) :
 Calls prog 58 #[.pointer (some ⟨x,0,none⟩),.int .i64 k,.int .i64 y,.int .i64 f,.slice A n cap] w fun e w'=>Zi5 w w' X x p q r a (N+n) S (takeR S k y f l) e:=by
 have HG:=hid (Zbc h (by omega) f hf);have hlen:=(hl w (Za.refl _ _)).len;have hlok:=(hl w (Za.refl _ _)).ok;have H4:=hid h.four;have HS:=hid (And.intro hm.ok (And.intro hm hN));have HV:=hid (show ∀W,Below w.heap.size w W->ZP W X x p q r a S N/\Za (fun k=>k=q∨k=r) w W from fun W hW=>⟨h.below hW,Za.of_below hW⟩);have HL:=hid hl;have HLEN:=hid (And.intro hlen hlok)
 have HBAD:=hid (show ∀(v':Int) W,v'≠0->takeR S k y f l=(([],v'),S)->Below w.heap.size w W->Zi5 w W X x p q r a (N+n) S (takeR S k y f l) (.returned (.tuple #[.slice none 0 0,.int .i64 v']))from fun v' W hv hR hW=>by
  rw[hR]
  exact⟨_,S,rfl,fun e=>absurd e hv,Enc.Own.start _ _ _,⟨X,fun _ h=>h,fun b hb=>by simp[Value.ownBlock]at hb,(h.below hW).more (by omega)⟩,hm.more (by omega),rfl,Za.of_below hW⟩)
 have h6:=fun(d:Dc) (st:List Dl) (hd:docGet S f=some (d,st))=>ZaT hd
 have t1:=fun(hd:docGet S f=none)=>ZcE (k:=k) (y:=y) (l:=l) hd
 have t2:=fun(d:Dc) (st:List Dl) (hd:docGet S f=some (d,st)) (q:d.k≠k∨d.y≠y)=>Zb9 (l:=l) hd q
 have t3:=fun(d:Dc) (st:List Dl) (hd:docGet S f=some (d,st)) (q1:d.k=k) (q2:d.y=y) (q:(ZE st l).2≠0)=>Zdn hd q1 q2 q
 have t4:=fun(d:Dc) (st:List Dl) (hd:docGet S f=some (d,st)) (q1:d.k=k) (q2:d.y=y) (q:(ZE st l).2=0)=>ZcF hd q1 q2 q
 have HT:=hid (And.intro h6 (And.intro t1 (And.intro t2 (And.intro t3 t4))));clear h6 t1 t2 t3 t4 h hm hl hlen hlok;obtain⟨o,ho⟩:∃o,o=docGet S f:=⟨_,rfl⟩
 rw[<-ho]at HG HT;have HO:=hid ho;clear ho;generalize takeR S k y f l=R at HBAD HT ⊢;go_enter func58,ntmps58;go_wp2_with fail;refine HG.out.mono ?_;rintro e w1⟨A0,k0,rfl,hown,hok,hdok,hb1⟩;clear HG;cases o with
 | none=>
  have HE:=hid (HBAD.out 7 (w1.alloc (.cells #[.int .i64 0,.int .i64 0,.int .i64 0,.int .i64 0,.int .i64 0] 44 (0,0))) (by decide) (HT.out.2.1 rfl) (hb1.trans (((Below.refl w1.heap.size w1).alloc (Nat.le_refl _) _).mono hb1.size)));clear HT HBAD HO hown hok hdok hb1;simp only[dcW,Option.map_none,Option.getD_none,Zbt,Option.isSome_none];go_wp2_with fail;go_ret2;exact HE.out
 | some pd=>
  obtain⟨d,st⟩:=pd;obtain⟨g1,g2,g3,g4,g5,g6,g7⟩:=HT.out.1 d st rfl;simp only[Zet]at hown hok;obtain⟨w2,hw2⟩:∃w2,w2=w1.alloc (.cells #[.int .i64 d.i,.int .i64 d.k,.int .i64 d.y,.int .i64 d.f,.int .i64 d.n] 44 (0,0)):=⟨_,rfl⟩
  have hb2:Below w1.heap.size w1 w2:=by rw[hw2];exact(Below.refl _ _).alloc (Nat.le_refl _) _
  have hblk:w2.heap[w1.heap.size]?=some (.cells #[.int .i64 d.i,.int .i64 d.k,.int .i64 d.y,.int .i64 d.f,.int .i64 d.n] 44 (0,0)):=by rw[hw2];exact heap_alloc_new w1 _
  have hb12:=hb1.trans (hb2.mono hb1.size);have HST:=hid (show 1<=st.length/\st.length<=6/\(∀z∈st,ZaE z)from⟨g5,g6,hok⟩);have HB12:=hid hb12;have HT2:=hid (HT.out.2.2.1 d st rfl);have HT3:=hid (HT.out.2.2.2.1 d st rfl);have HT4:=hid (HT.out.2.2.2.2 d st rfl);clear HT hown hok hdok hb1 hb2 g1 g2 g3 g4 g5 g6 g7;simp only[dcW,Option.map_some,Option.getD_some,Option.isSome_some,Zet];obtain⟨q0,q1,q2,q3,q4⟩:w2.cell? ⟨w1.heap.size,0,none⟩=some (.int .i64 d.i)/\w2.cell? ⟨w1.heap.size,1,none⟩=some (.int .i64 d.k)/\w2.cell? ⟨w1.heap.size,2,none⟩=some (.int .i64 d.y)/\w2.cell? ⟨w1.heap.size,3,none⟩=some (.int .i64 d.f)/\w2.cell? ⟨w1.heap.size,4,none⟩=some (.int .i64 d.n):=⟨cell_of_row w2 _ 0 _ _ (0,0) hblk,cell_of_row w2 _ 1 _ _ (0,0) hblk,cell_of_row w2 _ 2 _ _ (0,0) hblk,cell_of_row w2 _ 3 _ _ (0,0) hblk,cell_of_row w2 _ 4 _ _ (0,0) hblk⟩
  by_cases hdk:d.k=k
  · by_cases hdy:d.y=y
    · obtain⟨dI,dK,dY,dF,dN⟩:=d;simp only at hdk hdy hw2 q0 q1 q2 q3 q4 HO;subst hdk hdy;have HT3':=hid (HT3.out rfl rfl);have HT4':=hid (HT4.out rfl rfl);have H0:=hid (show ZbJ w w2 X x p q r a (N+0) (ZaZ f S st (l.take 0)) (.slice none 0 0) (ZE st (l.take 0)).1.2/\(ZE st (l.take 0)).2=0 from⟨⟨Enc.Own.start _ _ _,⟨X,fun k h=>h,(fun b e=>by cases e),(HV.out w2 HB12.out).1⟩,HS.out.2.1,(HV.out w2 HB12.out).2⟩,rfl⟩);clear HT2 HT3 HT4 hblk;go_wp2_with fail;rw[<-hw2];clear hw2 q0 q1 q2 q3 q4 HV
      go_loopw[15,16] (fun uv iv wr=>∃j:Nat,j<=n/\iv=.int .i64 j/\(∃A' k',uv=.slice A' j k')/\Hid (ZbJ w wr X x p q r a (N+j) (ZaZ f S st (l.take j)) uv (ZE st (l.take j)).1.2/\(ZE st (l.take j)).2=0)) (fun _ iv _=>n-(intOf iv).toNat)
      case atStart=>exact⟨0,Nat.zero_le _,rfl,⟨none,0,rfl⟩,H0⟩
      case round=>
       clear H0;obtain⟨j,hj,rfl,⟨A',k',rfl⟩,HJ⟩:=hrel;by_cases hlt:j<n
       · have hlt':(j:Int)<(n:Int):=by omega
         have hj0:(0:Int)<=(j:Int):=by omega
         obtain⟨⟨hown,⟨X1,hx1,hx2,hrs⟩,hmm,ht⟩,hz0⟩:=HJ.out;obtain⟨z0,hx⟩:∃x,l[j]?=some x:=⟨_,List.getElem?_eq_getElem (by rw[HLEN.out.1];exact hlt)⟩
         have hxok:=HLEN.out.2 z0 (List.mem_of_getElem? hx);have hwr:=ht.size;have hstj:=ZcP (l.take j) st;have hokj:=(Zdd (l:=l.take j) (st:=st) HST.out.2.2 fun z hz=>HLEN.out.2 z (List.mem_of_mem_take hz)).1;have htkl:=Za5 (l.take j) st hz0;have hTK:=Zfs hx hz0;have hBD:=fun h2=>Zhy hx hz0 h2
         have hget:=Ze8 HS.out.1 HO.out.symm HST.out.2.2 hz0;have hmore:=Zgc (f:=f) (S:=S) hx hz0;have hSW:=Zde f (l.take j) st S;obtain⟨TK,hTKd⟩:∃TK,TK=(ZE st (l.take j)).1.2:=⟨_,rfl⟩
         obtain⟨F,hF⟩:∃F,F=(ZE st (l.take j)).1.1:=⟨_,rfl⟩
         obtain⟨SJ,hSJ⟩:∃SJ,SJ=ZaZ f S st (l.take j):=⟨_,rfl⟩
         rw[<-hTKd]at hown htkl hTK;rw[<-hF]at hstj hokj hTK hBD hget hmore;rw[<-hSJ]at hrs hmm hget hmore hSW;have HGJ:=hid (Zbc hrs (by have:=HS.out.2.2;omega) f hf);rw[hget]at HGJ
         have HEND:=hid (show ∀W,Below wr.heap.size wr W->∀v:Int,v≠0->(ZE st l).2=v->Zi5 w W X x p q r a (N+n) S R (.returned (.tuple #[.slice none 0 0,.int .i64 v]))from fun W hW v hv hq=>by
          rw[HT3'.out (by rw[hq];exact hv),hq];obtain⟨e1,e2,e3,e4⟩:=H4.out.1
          exact⟨_,SJ,rfl,fun e=>absurd e hv,Enc.Own.start _ _ _,⟨X,fun _ h=>h,fun b hb=>by simp[Value.ownBlock]at hb,((hrs.below hW).less hx1 e1 e2 e3 e4).more (by omega)⟩,hmm.more (by omega),hSW,ht.trans (Za.of_below hW)⟩)
         have HTK:=hid hTK;have HB:=hid hBD;have HQ:=hid (And.intro hown (And.intro hx1 (And.intro hx2 (And.intro hrs (And.intro hmm ht)))));have HQ2:=hid (And.intro hstj (And.intro hokj (And.intro htkl (And.intro hmore (And.intro hxok (And.intro hx hget))))));clear hown hx1 hx2 hrs hmm ht hz0 hxok hwr hstj hokj htkl hTK hBD hget hmore hSW hTKd hF hSJ HJ HBAD;go_wp2_with fail;refine HGJ.out.mono ?_;rintro e w3⟨A3,k3,rfl,hown3,hok3,hdok3,hb3⟩;clear HGJ;simp only[Zet]at hown3 hok3;have hFm:F.length=st.length:=HQ2.out.1;have hst1:=HST.out.1;obtain⟨g,rfl,hgb,hrow⟩:=ZbI.of_own hown3 (by omega);simp only[dcW,Option.map_some,Option.getD_some,Option.isSome_some,Zet];obtain⟨w4,hw4⟩:∃w4,w4=w3.alloc (.cells #[.int .i64 dI,.int .i64 dK,.int .i64 dY,.int .i64 dF,.int .i64 dN] 44 (0,0)):=⟨_,rfl⟩
         have hb4:Below w3.heap.size w3 w4:=by rw[hw4];exact(Below.refl _ _).alloc (Nat.le_refl _) _
         have hb34:=hb3.trans (hb4.mono hb3.size);have hrow4:=hrow.keep (hb4.block g hrow.lt);have hs4:w4.heap.size=w3.heap.size+1:=by rw[hw4];simp
         obtain⟨b,off,rfl,hb,hat⟩:=(HL.out w4 (HQ.out.2.2.2.2.2.trans (Za.of_below hb34))).2.2 (by omega);have HAM:=hid (show ∀W,Za (fun k=>k=q∨k=r) w W->W.cell? ⟨b,off+j*4+2,none⟩=some (.int .i64 z0.n)/\W.cell? ⟨b,off+j*4+3,none⟩=some (.int .i64 z0.a)from fun W hW=>ZpR (HL.out W hW) rfl hx);have htw4:=HQ.out.2.2.2.2.2.trans (Za.of_below hb34);have c2:=(HAM.out w4 htw4).1;rw[hFm]at hrow4 ⊢;have HB34:=hid hb34;clear hown3 hok3 hdok3 hb3 hb4 hrow hat hb hx;by_cases hneg:z0.n<0
         · have k1:decide (z0.n<0)=true:=decide_eq_true hneg;have hE:=ZcC (st:=F) (x:=z0) (.inl hneg);have HE:=hid (HEND.out w4 HB34.out 7 (by decide) ((HB.out (by rw[hE];decide)).trans hE));have c2':=c2;rw[hw4]at c2';clear hE HB HTK hneg HEND hrow4 HQ HQ2 htw4 hb34 c2;go_wp2_with fail;rw[<-hw4];go_ret2;exact HE.out
         · have k1:decide (z0.n<0)=false:=decide_eq_false hneg;by_cases hge:(st.length:Int)<=z0.n
           · have k2:decide ((st.length:Int)<=z0.n)=true:=decide_eq_true hge;have hE:=ZcC (st:=F) (x:=z0) (.inr (by rw[hFm];exact hge));have HE:=hid (HEND.out w4 HB34.out 7 (by decide) ((HB.out (by rw[hE];decide)).trans hE));have c2':=c2;rw[hw4]at c2';clear hE HB HTK hneg hge HEND hrow4 HQ HQ2 htw4 hb34 c2;go_wp2_with fail;rw[<-hw4];go_ret2;exact HE.out
           · have k2:decide ((st.length:Int)<=z0.n)=false:=decide_eq_false hge;obtain⟨i,hi⟩:∃i:Nat,z0.n=i:=⟨z0.n.toNat,by omega⟩
             have hin:i<st.length:=by omega
             obtain⟨z,hz⟩:∃z,F[i]?=some z:=⟨_,List.getElem?_eq_getElem (by rw[hFm];exact hin)⟩
             have hzok:=HQ2.out.2.1 z (List.mem_of_getElem? hz);have hEo:=Ze2 hi hz;have hNi:=ZjP hi hz;have hKi:=ZjQ hi hz;obtain⟨r0,r1,r2,r3⟩:=hrow4.cells hz;obtain⟨w5,hw5⟩:∃w5,w5=w4.alloc (.cells #[.int .i64 z.nd,.int .i64 z.o,.int .i64 z.l,.int .i64 z.c] 50 (0,0)):=⟨_,rfl⟩
             have hb5:Below w4.heap.size w4 w5:=by rw[hw5];exact(Below.refl _ _).alloc (Nat.le_refl _) _
             have hblk5:w5.heap[w4.heap.size]?=some (.cells #[.int .i64 z.nd,.int .i64 z.o,.int .i64 z.l,.int .i64 z.c] 50 (0,0)):=by rw[hw5];exact heap_alloc_new w4 _
             have hs5:w5.heap.size=w4.heap.size+1:=by rw[hw5];simp
             have hb45:=hb34.trans (hb5.mono hb34.size);have HOP:=hid (Zif z w5.drew);have hd:=(Below.refl w5.heap.size w5).drew;have hwr4:=hb34.size;have HB5:=hid (show Below wr.heap.size wr w5/\wr.heap.size<=w3.heap.size+1/\w3.heap.size+1<w5.heap.size from⟨hb45,by omega,by omega⟩)
             have KK:=hid (show ∀W,Below w5.heap.size w5 W->(W.cell? ⟨w3.heap.size+1,0,none⟩=some (.int .i64 z.nd)/\W.cell? ⟨w3.heap.size+1,1,none⟩=some (.int .i64 z.o)/\W.cell? ⟨w3.heap.size+1,2,none⟩=some (.int .i64 z.l)/\W.cell? ⟨w3.heap.size+1,3,none⟩=some (.int .i64 z.c)/\W.cell? ⟨b,off+j*4+3,none⟩=some (.int .i64 z0.a))/\W.heap[w3.heap.size+1]?=some (.cells #[.int .i64 z.nd,.int .i64 z.o,.int .i64 z.l,.int .i64 z.c] 50 (0,0))from fun W hW=>by
              rw[<-hs4];have hb:=(hW.block w4.heap.size (by omega)).trans hblk5;obtain⟨a0,a1,a2,a3⟩:=Zu hb
              exact⟨⟨a0,a1,a2,a3,(HAM.out W (htw4.trans ((Za.of_below hb5).trans (Za.of_below hW)))).2⟩,hb⟩)
             have c5:=(KK.out _ hd).1;have HROW:=hid (And.intro hz hzok);have HEO:=hid (And.intro hEo (And.intro hNi hKi));rw[hw4]at c2 r0 r1 r2 r3 hw5;clear hneg hge hrow4 hz hzok hEo hNi hKi hd hblk5 hs5 hb5 hb45 hb34 htw4 hwr4;obtain⟨xf,xo,xn,xa⟩:=z0;obtain⟨zn,zo,zl,zc⟩:=z;simp only at hi KK c5 k1 k2 HB HTK HROW HEO HQ2 HAM c2 r0 r1 r2 r3 hw5 HOP;subst hi;have hi0:(0:Int)<=(i:Int):=by omega
             have hin':(i:Int)<(st.length:Int):=by omega
             go_wp2_with fail;rw[<-hw5];clear hw5 hw4 c2 r0 r1 r2 r3;generalize openL ⟨zn,zo,zl,zc⟩=oz at HOP HEO
             go_region_held3 (fun W=>W.cell? ⟨w3.heap.size+1,0,none⟩=some (.int .i64 zn)/\W.cell? ⟨w3.heap.size+1,1,none⟩=some (.int .i64 zo)/\W.cell? ⟨w3.heap.size+1,2,none⟩=some (.int .i64 zl)/\W.cell? ⟨w3.heap.size+1,3,none⟩=some (.int .i64 zc)/\W.cell? ⟨b,off+j*4+3,none⟩=some (.int .i64 xa))
              (first|with_reducible exact c5|exact c5)
              (first|(go_at_call 114;refine Calls.mono HOP.out ?_;rintro e w6 ⟨rfl,hb6⟩;have hb6:=((Below.refl w5.heap.size w5).drew).trans hb6;have c5:=(KK.out _ hb6).1))
             have hk6:=(KK.out w6 hb6).2;have HB6:=hid (show Below wr.heap.size wr w6/\w3.heap.size+1<w6.heap.size/\w6.heap[w3.heap.size+1]?=some (.cells #[.int .i64 zn,.int .i64 zo,.int .i64 zl,.int .i64 zc] 50 (0,0))from⟨HB5.out.1.trans (hb6.mono HB5.out.1.size),Nat.lt_of_lt_of_le HB5.out.2.2 hb6.size,hk6⟩);clear c5 hb6 HOP hk6 KK;obtain⟨Bb,hBb⟩:∃B,B=decide (oz<xa):=⟨_,rfl⟩
             rw[<-hBb];cases Bb with
             | true=>
              have hop:=of_decide_eq_true hBb.symm;clear hBb;have hE:=HEO.out.1.trans (if_pos hop);have HE:=hid (HEND.out w6 HB6.out.1 12 (by decide) ((HB.out (by rw[hE];decide)).trans hE));clear hE HB HTK hop HEND HEO HROW HQ HQ2;go_wp2_with fail;go_ret2;exact HE.out
             | false=>
              have hop:=of_decide_eq_false hBb.symm;clear hBb;have hE:=HEO.out.1.trans (if_neg hop);have hTK:=HTK.out;rw[if_pos hE]at hTK;have htw6:=HQ.out.2.2.2.2.2.trans (Za.of_below HB6.out.1);have n2:w6.drew.cell? ⟨w3.heap.size+1,2,none⟩=some (.int .i64 zl):=(Zu HB6.out.2.2).2.2.1;have n3:w6.drew.cell? ⟨b,off+j*4+3,none⟩=some (.int .i64 xa):=(HAM.out w6 htw6).2
              have nf:w6.drew.frozen? ⟨w3.heap.size+1,2,none⟩=false:=by
               have:=HB6.out.2.2
               show w6.frozen? _=false;simp[World.frozen?,this]
              have hwz:IntKind.i64.wrap (zl+xa)=wrap64 (zl+xa):=Zb8 _;have HTKH:=hid hTK;have HTW:=hid htw6;clear hE hTK hop HEND HB HTK htw6;go_wp2_with fail
              have HW7:=hid (show ∃w7,w7=(w6.setCell ⟨w3.heap.size+1,2,none⟩ (.int .i64 (wrap64 (zl+xa)))).drew/\Below wr.heap.size wr w7/\w7.heap[w3.heap.size+1]?=some (.cells #[.int .i64 zn,.int .i64 zo,.int .i64 (wrap64 (zl+xa)),.int .i64 zc] 50 (0,0))/\w3.heap.size+1<w7.heap.size from by
               have hb7:=Zd HB6.out.1 HB5.out.2.1 2 (.int .i64 (wrap64 (zl+xa)));have hd7:=(Below.refl (w6.setCell ⟨w3.heap.size+1,2,none⟩ (.int .i64 (wrap64 (zl+xa)))).heap.size (w6.setCell ⟨w3.heap.size+1,2,none⟩ (.int .i64 (wrap64 (zl+xa))))).drew;have hs7:(w6.setCell ⟨w3.heap.size+1,2,none⟩ (.int .i64 (wrap64 (zl+xa)))).heap.size=w6.heap.size:=by simp
               refine⟨_,rfl,hb7.trans (hd7.mono hb7.size),(hd7.block _ (by rw[hs7];exact HB6.out.2.1)).trans ?_,by show _<(w6.setCell _ _).heap.size;rw[hs7];exact HB6.out.2.1⟩
               exact heap_setCell_same w6 (w3.heap.size+1) 2 _ _ _ HB6.out.2.2)
              go_region_law (fail)
              all_goals
               obtain⟨w7,hw7,hb7,hk7,hs7⟩:=HW7.out;rw[<-hw7];clear hw7 n2 n3 nf HW7;obtain⟨g0,g1,g2,g3⟩:=Zu hk7;have hrs7:=HQ.out.2.2.2.1.below hb7;have hget:=HQ2.out.2.2.2.2.2.2
               have hLok:ZaE ⟨zn,zo,wrap64 (zl+xa),zc⟩:=by
                intro v hv;have hz0:=HROW.out.2;simp only[List.mem_cons,List.not_mem_nil,or_false]at hv;rcases hv with rfl|rfl|rfl|rfl
                · exact hz0 _ (by simp)
                · exact hz0 _ (by simp)
                · unfold wrap64;omega
                · exact hz0 _ (by simp)
               have hset:=ZcD hget (j:=(i:Int)) (by rw[HQ2.out.1];omega) ⟨zn,zo,wrap64 (zl+xa),zc⟩;have HSET:=hid (Zeg hrs7 (by have:=HS.out.2.2;omega) f (i:Int) ⟨zn,zo,wrap64 (zl+xa),zc⟩ hLok hf (by have:=HST.out.2.1;omega));rw[hset]at HSET;have hmo:=HQ2.out.2.2.2.1;simp only[Int.toNat_natCast]at hmo;rw[HROW.out.1,Option.getD_some]at hmo;have HMO:=hid (show ZaZ f S st (l.take (j+1))=SJ.putL f (i:Int) ⟨zn,zo,wrap64 (zl+xa),zc⟩ from hmo);have HB7:=hid (And.intro hb7 (And.intro hk7 hs7));clear hrs7 hget hLok hset hmo hb7 hk7 hs7;go_wp2_with fail;refine HSET.out.mono ?_;rintro e w8⟨rfl,h8,t8⟩;clear HSET g0 g1 g2 g3;obtain⟨hb7,hk7,hs7⟩:=HB7.out;obtain⟨o1,o2,o3,o4,o5⟩:=H4.out;have hww:=HQ.out.2.2.2.2.2.size;have hs34:=HB5.out.2.1;have htw8:Za (fun k=>k=q∨k=r) w w8:=(HQ.out.2.2.2.2.2.trans (Za.of_below hb7)).trans t8;have hk8:=(t8.block (w3.heap.size+1) hs7 (fun e=>by omega)).trans hk7;have e0:w8.drew.cell? ⟨w3.heap.size+1,0,none⟩=some (.int .i64 zn):=(Zu hk8).1;have e3:w8.drew.cell? ⟨b,off+j*4+3,none⟩=some (.int .i64 xa):=(HAM.out w8 htw8).2
               have hown8:=HQ.out.1.stays (w':=w8) fun s hs=>by
                have hs2:=HQ.out.1.at_ s hs;exact(t8.block s (Nat.lt_of_lt_of_le hs2.2 hb7.size) (fun e=>by omega)).trans (hb7.block s hs2.2)
               have hb9:Below w8.heap.size w8 (w8.alloc (.cells #[.int .i64 zn,.int .i64 xa,.int .i64 0,.int .i64 0] 50)).drew:=((Below.refl _ _).alloc (Nat.le_refl _) _).drew;have hkl:TK.length=j:=by rw[HQ2.out.2.2.1,List.length_take];have:=HLEN.out.1;omega
               have hkok:ZaE ⟨zn,xa,0,0⟩:=by
                intro v hv;simp only[List.mem_cons,List.not_mem_nil,or_false]at hv;rcases hv with rfl|rfl|rfl|rfl
                · exact HROW.out.2 _ (by simp)
                · exact HQ2.out.2.2.2.2.1.2.2.2
                · omega
                · omega
               obtain⟨v',w10,hrun,hown10,hb10,hgr,hgn⟩:=(hown8.below hb9).append1 DlT (x:=⟨zn,xa,0,0⟩) (heap_alloc_new w8 _) rfl hkok (by omega) (Nat.le_trans htw8.size hb9.size) 45;obtain⟨A10,k10,rfl,hk10⟩:=hown10.shape;have hl10:(TK++[(⟨zn,xa,0,0⟩:Dl)]).length=j+1:=by rw[List.length_append,hkl];rfl
               rw[hl10]at hrun hown10 hgn;have HRUN:=hid hrun
               have hJ:ZbJ w w10 X x p q r a (N+(j+1)) (SJ.putL f (i:Int) ⟨zn,zo,wrap64 (zl+xa),zc⟩) (.slice A10 (j+1) k10) (TK++[(⟨zn,xa,0,0⟩:Dl)]):=by
                have hg9:=(h8.below hb9).grow hgr (fun s hs=>by
                 have hs2:=HQ.out.1.at_ s hs
                 exact⟨HQ.out.2.2.1 s hs,by omega,by omega,by omega,by omega⟩)
                refine⟨hown10,⟨_,fun k hk=>.inl (HQ.out.2.1 k hk),fun s hs=>?_,hg9⟩,Zft HQ.out.2.2.2.2.1 _ _ _,⟨hb10.os.trans (hb9.os.trans htw8.os),hb10.tape.trans (hb9.tape.trans htw8.tape),hb10.output.trans (hb9.output.trans htw8.output),Nat.le_trans htw8.size (Nat.le_trans hb9.size hb10.size),fun q hq hn=>(hb10.block q hq).trans ((hb9.block q (Nat.lt_of_lt_of_le hq htw8.size)).trans (htw8.block q hq hn))⟩⟩;rcases hgn with hgn|hgn
                · exact .inl (HQ.out.2.2.1 s (hgn.symm.trans hs))
                · rw[hgn]at hs;cases hs;exact .inr ⟨rfl,(hown10.at_ _ hgn).2⟩
               have HJ2:=hid (show ZbJ w w10 X x p q r a (N+(j+1)) (ZaZ f S st (l.take (j+1))) (.slice A10 (j+1) k10) (ZE st (l.take (j+1))).1.2/\(ZE st (l.take (j+1))).2=0 from by
                rw[HMO.out,HTKH.out]
                exact⟨by rw[HEO.out.2.2];exact hJ,rfl⟩)
               clear h8 t8 hb7 hk7 hs7 o1 o2 o3 o4 o5 hww hs34 htw8 hk8 hown8 hb9 hkl hkok hrun hown10 hb10 hgr hgn hk10 hl10 hJ HB7 HMO HTKH HEO HROW HQ HQ2;go_wp2_with fail
               go_region_law (refine Zcq rfl (.tmp 93) (.tmp 102) _ _ rfl _ _ (by rfl) (by rfl) HRUN.out ?_)
               all_goals
                clear HRUN;go_wp2_with fail;go_roundw
                case rel=>exact⟨j+1,by omega,by go_num,⟨A10,k10,rfl⟩,HJ2⟩
                case measure=>simp[intOf];omega
       · obtain rfl:j=n:=by omega
         have htk:l.take j=l:=List.take_of_length_le (by have:=HLEN.out.1;omega);obtain⟨⟨hown,⟨X1,hx1,hx2,hv⟩,hmm,ht⟩,hz0⟩:=HJ.out;rw[htk]at hown hv hmm hz0;have hR:=HT4'.out hz0
         have HE:=hid (show Zi5 w wr X x p q r a (N+j) S R (.returned (.tuple #[.slice A' j k',.int .i64 0]))from by
          rw[hR];obtain⟨e1,e2,e3,e4⟩:=H4.out.1
          exact⟨_,_,rfl,fun _=>rfl,hown,⟨X1,hx1,hx2,hv⟩,hmm,Zde _ _ _ _,ht⟩)
         clear hown hv hmm hz0 ht hR htk HJ hx1 hx2;go_wp2_with fail;go_ret2;exact HE.out
    · have HE:=hid (HBAD.out 12 w2 (by decide) (HT2.out (.inr hdy)) HB12.out);have k1:(d.k != k)=false:=by simp[hdk]
      have k2:(d.y != y)=true:=by simp[hdy]
      clear HT2 HT3 HT4 hblk hdk hdy HO;obtain⟨dI,dK,dY,dF,dN⟩:=d;simp only at k1 k2 hw2 q0 q1 q2 q3 q4;go_wp2_with fail;rw[<-hw2];go_ret2;exact HE.out
  · have HE:=hid (HBAD.out 12 w2 (by decide) (HT2.out (.inl hdk)) HB12.out);have k1:(d.k != k)=true:=by simp[hdk]
    clear HT2 HT3 HT4 hblk hdk HO;obtain⟨dI,dK,dY,dF,dN⟩:=d;simp only at k1 hw2 q0 q1 q2 q3 q4;go_wp2_with fail;rw[<-hw2];go_ret2;exact HE.out
end
theorem Zpm{f:Int}{pp:Int}(hp:pp=if f=0 then 0 else -1){z:Dl}(h:ZaE z):ZmH 0 pp 1 z=expCh f z:=by
 have ho:ZS z.o:=h _ (by simp);unfold ZmH expCh;subst hp;by_cases hf:f=0
 · rw[if_pos hf,if_pos hf,Int.zero_mul,Int.one_mul,ZbK ho,ZbK (a:=0) (by unfold ZS;omega)]
 · rw[if_neg hf,if_neg hf,Int.one_mul,Int.zero_mul,ZbK ho,ZbK (a:=0) (by unfold ZS;omega),show -1*z.o = -z.o by omega]
theorem Zi6{f:Int}{pp:Int}(hp:pp=if f=0 then 0 else -1){l:List Dl}(h:∀z∈l,ZaE z):l.map (ZmH 0 pp 1)=l.map (expCh f):=
 List.map_congr_left fun z hz=>Zpm hp (h z hz)
theorem Zi7(f:Int)(l:List Dl):(l.map Zbo).map (expCh f)=l.map (expCh f):=by
 rw[List.map_map];rfl
theorem ZdA{w wr:World}{q r g2 o:Nat}{x:Value}(ht:Za (fun k=>k=q∨k=r) w wr)(hg:w.heap.size<=g2):Za (fun k=>k=q∨k=r) w (wr.setCell ⟨g2,o,none⟩ x):=by
 have h:Za (fun k=>(k=q∨k=r)∨w.heap.size<=k) w (wr.setCell ⟨g2,o,none⟩ x):=(ht.mono fun k hk=>.inl hk).trans ⟨rfl,rfl,rfl,by simp,fun k hk hn=>heap_setCell_other _ _ _ _ (fun e=>hn (.inr (by rw[e];exact hg)))⟩;exact⟨h.os,h.tape,h.output,h.size,fun k hk hn=>h.block k hk fun e=>by rcases e with e|e;exact hn e;omega⟩
section
variable{w w':World}{X:Nat->Prop}{x p q r N:Nat}{a:TL}{S:VS}
theorem Zkq(h:ZP w X x p q r a S N)(hm:Zv S N)(hN:N<=90000)(hok:∀f d st,docGet S f=some (d,st)->∀z∈st,ZaE z)(y f:Int)(hy:ZS y)(hf:ZS f){A:Option Addr}{n cap:Nat}{l:List Ln}(hl:∀W,Za (fun k=>k=q∨k=r) w W->RL W W.heap.size A n l)(hn:n<=maxLen) :
 Calls prog 24 #[.pointer (some ⟨x,0,none⟩),.int .i64 y,.int .i64 f,.slice A n cap] w fun u w'=>Zar w w' X x p q r a (N+112) S (expNew S y f l) u:=by
 have HFOUR:=hid h.four;have HF:=hid (Zgw (cap:=cap) h (by omega) y hy (fun W hW=>hl W (Za.of_below hW)) hn);have hlen:=(hl w (Za.refl _ _)).len;have hlok:=(hl w (Za.refl _ _)).ok;have HLI:=hid (show ∀W,Below w.heap.size w W->n<=6->Calls prog 57 #[.slice A n cap] W fun e w'=>∃u,e=.returned u/\DlE.Own 50 w' W.heap.size u (l.map ZY)/\Below W.heap.size W w' from fun W hW h6=>Zgv cap (hl W (Za.of_below hW)) (Nat.le_refl _) (by omega));have HTAKE:=hid (show ∀W,Below w.heap.size w W->n<=6->Calls prog 58 #[.pointer (some ⟨x,0,none⟩),.int .i64 2,.int .i64 y,.int .i64 f,.slice A n cap] W fun e w'=>Zi5 W w' X x p q r a (N+n) S (takeR S 2 y f l) e from fun W hW h6=>Zmi (h.below hW) hm (by omega) 2 y f hf (fun V hV=>hl V ((Za.of_below hW).trans hV)) (by omega));have e1:yChk S y≠0->expNew S y f l=((0,false,yChk S y),S):=fun h=>by rw[ZaV,if_neg h]
 have e2:yChk S y=0->preChk l≠0->expNew S y f l=((0,false,1),S):=fun h g=>by rw[ZaV,if_pos h,if_neg g]
 have e3:yChk S y=0->preChk l=0->f≠0->(takeR S 2 y f l).1.2≠0->expNew S y f l=((0,false,(takeR S 2 y f l).1.2),(takeR S 2 y f l).2):=fun h g j q=>by
  have hE:Zcb S y f l=(((takeR S 2 y f l).1.1.map Zbo,(takeR S 2 y f l).1.2),(takeR S 2 y f l).2):=if_neg j;rw[ZaV,if_pos h,if_pos g,hE,if_neg q]
 have e4:yChk S y=0->preChk l=0->f≠0->(takeR S 2 y f l).1.2=0->expNew S y f l=Zbe (takeR S 2 y f l).2 y f ((takeR S 2 y f l).1.1.map (expCh f)) ((takeR S 2 y f l).1.1.map Zbo):=fun h g j q=>by
  have hE:Zcb S y f l=(((takeR S 2 y f l).1.1.map Zbo,(takeR S 2 y f l).1.2),(takeR S 2 y f l).2):=if_neg j;rw[ZaV,if_pos h,if_pos g,hE,if_pos q];show Zbe _ y f ((List.map Zbo _).map (expCh f)) _=_;rw[Zi7]
 have e5:yChk S y=0->preChk l=0->f=0->expNew S y f l=Zbe S y f ((l.map ZY).map (expCh f)) ((l.map ZY).map Zbo):=fun h g j=>by
  have hE:Zcb S y f l=(((l.map ZY).map Zbo,0),S):=if_pos j;rw[ZaV,if_pos h,if_pos g,hE,if_pos rfl];show Zbe _ y f ((List.map Zbo _).map (expCh f)) _=_;rw[Zi7]
 have hp01:preChk l=0∨preChk l=1:=by unfold preChk;split;exact .inr rfl;exact .inl rfl
 have HP6:=hid (fun h=>Zbp (l:=l) h);have E:=hid (And.intro e1 (And.intro e2 (And.intro e3 (And.intro e4 e5))));have HV:=hid (show ∀W,Below w.heap.size w W->ZP W X x p q r a S N/\Za (fun k=>k=q∨k=r) w W from fun W hW=>⟨h.below hW,Za.of_below hW⟩);have HM:=hid hm;have HLEN:=hid (And.intro hlen hlok);have HYY:=hid hy;have HFF:=hid hf;have HTO:=hid (And.intro (fun h=>Zbq (S:=S) (k:=2) (y:=y) (f:=f) (l:=l) h) (ZeF (k:=2) (y:=y) (fun d st hd=>hok f d st hd) hlok));clear h hm hl hlen hlok e1 e2 e3 e4 e5 hok;obtain⟨R,hR⟩:∃R,R=expNew S y f l:=⟨_,rfl⟩
 rw[<-hR]at E ⊢;clear hR;obtain⟨TR,hTR⟩:∃TR,TR=takeR S 2 y f l:=⟨_,rfl⟩
 rw[<-hTR]at E HTAKE HTO;clear hTR;obtain⟨yc,hyc⟩:∃yc,yc=yChk S y:=⟨_,rfl⟩
 rw[<-hyc]at HF E;clear hyc;obtain⟨pc,hpc⟩:∃pc,pc=preChk l:=⟨_,rfl⟩
 rw[<-hpc]at E HF hp01 HP6;clear hpc
 have HBAD:=hid (show ∀(v:Int) W,v≠0->R=((0,false,v),S)->Below w.heap.size w W->Zar w W X x p q r a (N+112) S R (.returned (.tuple #[.int .i64 0,.bool false,.int .i64 v]))from fun v W hv hR hW=>by
  rw[hR]
  exact⟨S,rfl,fun h=>absurd h hv,(HV.out W hW).1.more (by omega),HM.out.more (by omega),rfl,(HV.out W hW).2⟩)
 go_enter func24,ntmps24;go_wp2_with fail;refine HF.out.mono ?_;rintro e w2⟨rfl,h2⟩;have H2:=hid h2;clear h2 HF;by_cases h0:yc=0
 · subst h0;rw[if_pos rfl];rcases hp01 with rfl|rfl
   · obtain⟨n1,n6,hra⟩:=HP6.out (by first|rfl|trivial);rw[HLEN.out.1]at n1 n6;have HLI2:=hid (HLI.out w2 H2.out n6);have HTAKE2:=hid (fun W (hW:Below w.heap.size w W)=>HTAKE.out W hW n6);have HER3:=hid (fun j=>E.out.2.2.1 (by first|rfl|trivial) (by first|rfl|trivial) j);have HER4:=hid (fun j=>E.out.2.2.2.1 (by first|rfl|trivial) (by first|rfl|trivial) j);have HER5:=hid (fun j=>E.out.2.2.2.2 (by first|rfl|trivial) (by first|rfl|trivial) j);clear E HP6 hra HBAD HLI HTAKE;go_wp2_with fail;refine HLI2.out.mono ?_;rintro e w3⟨u,rfl,hown,h3⟩;obtain⟨A',k',rfl,hk'⟩:=hown.shape;have h13:=H2.out.trans (h3.mono H2.out.size);by_cases hf0:f=0
     · subst hf0;have hl3:(l.map ZY).length=n:=by rw[List.length_map];exact HLEN.out.1
       rw[hl3]at hown hk' ⊢;have hdok:=Zbx HLEN.out.2;have HER:=hid (HER5.out rfl);obtain⟨DL,hDL⟩:∃DL,DL=l.map ZY:=⟨_,rfl⟩
       rw[<-hDL]at hown hl3 hdok HER;obtain⟨ST,hST⟩:∃ST,ST=S:=⟨_,rfl⟩
       obtain⟨X3,hX3⟩:∃X3:Nat->Prop,X3=fun k=>X k∨(w2.heap.size<=k/\k<w3.heap.size):=⟨_,rfl⟩
       have HX3:=hid (show(∀k,X k->X3 k)/\(∀b,(Value.slice A' n k').ownBlock=some b->X3 b)from by
        rw[hX3]
        exact⟨fun k hk=>.inl hk,fun b hb=>.inr (hown.at_ b hb)⟩)
       have hRS:ZP w3 X3 x p q r a ST (N+n):=by
        rw[hX3,hST];exact((HV.out w2 H2.out).1.own_new h3).more (by omega)
       have hMM:Zv ST (N+n):=by rw[hST];exact HM.out.more (by omega)
       rw[<-hST]at HER;have HSW:=hid (show ST.W=S.W by rw[hST]);have HT3:=hid (HV.out w3 h13).2;have HS3:=hid H2.out.size;clear h3 h13 HLI2 hDL hST HTAKE2 HER3 HER4 HER5 HTO HV hX3;obtain⟨A2,hA2⟩:∃A2,A2=A':=⟨_,rfl⟩
       subst hA2;obtain⟨k2,hk2⟩:∃k2,k2=k':=⟨_,rfl⟩
       subst hk2;obtain⟨wL,hwL⟩:∃wL,wL=w3:=⟨_,rfl⟩
       subst hwL;have own:=hown;clear hown;obtain⟨g2,rfl,hg2,hrow⟩:=ZbI.of_own own (by omega);have hgx:=HX3.out.2 g2 (by simp[Value.ownBlock]);have hg4:g2≠x/\g2≠p/\g2≠q/\g2≠r:=by have:=HFOUR.out.2;have:=HS3.out;omega
       have HROW:=hid (show ∀W,Za (fun k=>k=q∨k=r) wL W->ZbI W g2 n k2 DL from fun W hW=>hrow.keep (hW.block g2 hrow.lt (fun e=>by rcases e with e|e;exact hg4.2.2.1 e;exact hg4.2.2.2 e)));have HCH:=hid (Zdw (cap:=k2) hRS hMM (by omega) y HYY.out (fun W hW=>(HROW.out W hW).R hdok) (by omega) 0 0 1);rw[Zi6 (f:=0) (by rw[if_pos rfl]) hdok]at HCH;have HGG:=hid (And.intro hg2 (And.intro hgx (And.intro hg4 (And.intro hl3 (And.intro hdok hk')))));clear own hg2 hrow hgx hg4 hRS hMM hl3 hdok hk';obtain⟨Rj,hRj⟩:∃Rj,Rj=runC y ST false (DL.map (expCh 0)):=⟨_,rfl⟩
       rw[<-hRj]at HCH;obtain⟨⟨bj,ej⟩,Sj⟩:=Rj;go_wp2_with fail;refine HCH.out.mono ?_;rintro u w5⟨b,T,rfl,hT,h4,m4,tw4,t4⟩;simp only at hT ⊢;clear HCH;by_cases he:ej=0
       · subst he;obtain⟨rfl,rfl⟩:=hT (by first|rfl|trivial);have hER:=HER.out;rw[ZdP hRj.symm]at hER;have HER2:=hid hER;have H0:=hid (show ZbI w5 g2 n k2 ((DL.take 0).map Zbo++DL.drop 0)/\ZP w5 X3 x p q r a T (N+n+8*n)/\Za (fun k=>k=q∨k=r) w w5 from⟨by simpa using HROW.out w5 t4,h4,HT3.out.trans t4⟩);have HM4:=hid (And.intro m4 (tw4.trans HSW.out));clear hT h4 m4 tw4 t4 hRj hER HER HROW HT3;go_wp2_with fail
         go_loopw[18] (fun iv wr=>∃j:Nat,j<=n/\iv=.int .i64 j/\Hid (ZbI wr g2 n k2 ((DL.take j).map Zbo++DL.drop j)/\ZP wr X3 x p q r a T (N+n+8*n)/\Za (fun k=>k=q∨k=r) w wr)) (fun iv _=>n-(intOf iv).toNat)
         case atStart=>exact⟨0,Nat.zero_le _,rfl,H0⟩
         case round=>
          clear H0;obtain⟨j,hj,rfl,HJ⟩:=hrel;by_cases hlt:j<n
          · have hlt':(j:Int)<(n:Int):=by omega
            have hj0:(0:Int)<=(j:Int):=by omega
            obtain⟨hrow,hv,ht⟩:=HJ.out;obtain⟨z,hz⟩:∃z,DL[j]?=some z:=⟨_,List.getElem?_eq_getElem (by rw[HGG.out.2.2.2.1];exact hlt)⟩
            obtain⟨c0,c1,c2,c3⟩:=hrow.cells (Zc6 hz);have fz:=hrow.frozen (j*4+2);have hset:=hrow.set (Zc6 hz) z.o;rw[Zha hz]at hset
            have HJ2:=hid (show ZbI (wr.setCell ⟨g2,j*4+2,none⟩ (.int .i64 z.o)) g2 n k2 ((DL.take (j+1)).map Zbo++DL.drop (j+1))/\ZP (wr.setCell ⟨g2,j*4+2,none⟩ (.int .i64 z.o)) X3 x p q r a T (N+n+8*n)/\Za (fun k=>k=q∨k=r) w (wr.setCell ⟨g2,j*4+2,none⟩ (.int .i64 z.o))from
             ⟨hset,hv.boxSet HGG.out.2.1 HGG.out.2.2.1 _ _,ZdA ht (Nat.le_trans HS3.out HGG.out.1)⟩)
            clear hrow hv ht hz hset HJ;obtain⟨zn,zo,zl,zc⟩:=z;simp only at HJ2 c0 c1 c2 c3;go_wp2_with fail;go_roundw
            case rel=>exact⟨j+1,by omega,by go_num,HJ2⟩
            case measure=>simp[intOf];omega
          · obtain rfl:j=n:=by omega
            obtain⟨hrow,hv,ht⟩:=HJ.out
            have htk:(DL.take j).map Zbo++DL.drop j=DL.map Zbo:=by
             rw[List.take_of_length_le (by have:=HGG.out.2.2.2.1;omega),List.drop_eq_nil_of_le (by have:=HGG.out.2.2.2.1;omega),List.append_nil]
            rw[htk]at hrow;obtain⟨DA,hDA⟩:∃DA,DA=DL.map Zbo:=⟨_,rfl⟩
            have hDAok:∀z∈DA,ZaE z:=by rw[hDA];exact Zdp HGG.out.2.2.2.2.1
            have hDAl:DA.length=j:=by rw[hDA,List.length_map];exact HGG.out.2.2.2.1
            have HERA:=hid HER2.out;rw[<-hDA]at hrow HERA;have HROWA:=hid (show ∀W,Za (fun k=>k=q∨k=r) wr W->DlE.R W W.heap.size (some ⟨g2,0,none⟩) j DA from fun W hW=>(hrow.keep (hW.block g2 hrow.lt (fun e=>by rcases e with e|e;exact HGG.out.2.2.1.2.2.1 e;exact HGG.out.2.2.1.2.2.2 e))).R hDAok)
            have hDOK:ZmW ⟨0,3,y,0,0⟩:=by
             intro z hz;simp only[List.mem_cons,List.not_mem_nil,or_false]at hz;rcases hz with rfl|rfl|rfl|rfl|rfl
             · omega
             · omega
             · exact HYY.out
             · exact HFF.out
             · omega
            have HPUT:=hid (ZbH hv (by omega) ⟨0,3,y,0,0⟩ hDOK (HROWA.out wr (Za.refl _ _)) HGG.out.2.2.2.2.2 (by unfold maxLen;omega));have HMP:=hid (Za2 HM4.out.1 ⟨0,3,y,0,0⟩ DA);have HWP:=hid ((ZbX T ⟨0,3,y,0,0⟩ DA).trans HM4.out.2);have HIDN:=hid (Zfc T ⟨0,3,y,0,0⟩ DA);have HT4:=hid ht;have HDA:=hid hDAl;clear hrow hv ht htk HJ HER2 HM4 hDOK hDAok hDAl hDA;generalize putDoc T ⟨0,3,y,0,0⟩ DA=PD at HPUT HERA HMP HWP HIDN;obtain⟨⟨pa,pb⟩,PS⟩:=PD;simp only at HPUT HERA HMP HWP HIDN;go_wp2_with fail;refine HPUT.out.mono ?_;rintro u w6⟨rfl,h6,t6⟩;by_cases hb:pb=0
            · have hR:=HERA.out.trans (if_pos hb);subst hb;have HLI:=hid (Zcf (cap:=k2) h6 (by omega) y HYY.out (HROWA.out w6 t6) (by omega));have hjl:=ZaR PS y DA
              have HEN:=hid (show ∀W u,Below w6.heap.size w6 W->Z8 W w6.heap.size u (jLines PS y DA)->(∀z∈jLines PS y DA,Za7 z)->∃A' n' k',u=.slice A' n' k'/\Calls prog 62 #[.pointer (some ⟨x,0,none⟩),.agg #[.int .i64 0,.int .i64 y,.int .i64 3,.int .i64 0,.int .i64 pa,.int .i64 0],.slice A' n' k'] W fun e w'=>e=.returned (.tuple #[.int .i64 (entPut PS y 3 pa (jLines PS y DA)).2.1,.int .i64 (entPut PS y 3 pa (jLines PS y DA)).2.2])/\ZP w' X3 x p q r a (entPut PS y 3 pa (jLines PS y DA)).1 (N+112)/\Za (fun k=>k=q∨k=r) W w' from fun W u hW hown hok=>by
               obtain⟨A',k',rfl,hk'⟩:=hown.shape;obtain⟨_,_,hr⟩:=hown.read hok;refine⟨A',_,k',rfl,(Zfx (h6.below hW) (by omega) 0 y 3 0 pa 0 HYY.out (by unfold I64;omega) HIDN.out hr (by have:=HDA.out;omega)).mono ?_⟩;rintro e w'⟨rfl,h8,t8⟩
               exact⟨rfl,h8.more (by have:=HDA.out;omega),t8⟩)
              have HMN:=hid ((Zc7 HMP.out y 3 pa (jLines PS y DA)).more (show _<=N+112 by have:=HDA.out;omega));have HWN:=hid ((Zhd HMP.out.ok y 3 pa (jLines PS y DA)).trans HWP.out);have HT6:=hid (HT4.out.trans t6);have HRR:=hid hR;clear h6 t6 hR hjl HPUT HERA HMP HWP HIDN HT4 HROWA;generalize entPut PS y 3 pa (jLines PS y DA)=EP at HEN HRR HMN HWN;generalize jLines PS y DA=JL at HLI HEN;obtain⟨ES,ei,ee⟩:=EP;simp only at HEN HRR HMN HWN;go_wp2_with fail;refine HLI.out.mono ?_;rintro u w7⟨uv,rfl,hown,hok,hb7⟩;obtain⟨A7,n7,k7,rfl,hcall⟩:=HEN.out w7 uv hb7 hown hok;have HC:=hid hcall;have HT7:=hid (HT6.out.trans (Za.of_below hb7));clear hown hok hb7 hcall HLI HEN HT6;go_wp2_with fail;refine HC.out.mono ?_;rintro u w8⟨rfl,h8,t8⟩
              have HE:=hid (show ∀v:Int,Zar w w8 X x p q r a (N+112) S R (.returned (.tuple #[.int .i64 (if ee=0 then pa else 0),.bool (if ee=0 then b else false),.int .i64 ee]))from fun _=>by
               have h9:=h8.less HX3.out.1 HFOUR.out.1.1 HFOUR.out.1.2.1 HFOUR.out.1.2.2.1 HFOUR.out.1.2.2.2;rw[HRR.out];by_cases hee:ee=0
               · rw[if_pos hee,if_pos hee,if_pos hee];subst hee;exact⟨ES,rfl,fun _=>rfl,h9,HMN.out,HWN.out,HT7.out.trans t8⟩
               · rw[if_neg hee,if_neg hee,if_neg hee]
                 exact⟨ES,rfl,fun h=>absurd h hee,h9,HMN.out,HWN.out,HT7.out.trans t8⟩)
              clear h8 t8 HC HT7 HRR HMN HWN;by_cases hee:ee=0
              · subst hee;have HE2:=hid (HE.out 0);rw[if_pos rfl,if_pos rfl]at HE2;clear HE;go_wp2_with fail
                go_ret3
                exact HE2.out
              · have q1:(ee != 0)=true:=by simp[hee]
                have HE2:=hid (HE.out 0);rw[if_neg hee,if_neg hee]at HE2;clear HE hee;go_wp2_with fail
                go_ret3
                exact HE2.out
            · have q1:(pb != 0)=true:=by simp[hb]
              have hR:=HERA.out.trans (if_neg hb)
              have HE:=hid (show Zar w w6 X x p q r a (N+112) S R (.returned (.tuple #[.int .i64 0,.bool false,.int .i64 pb]))from by
               rw[hR]
               exact⟨PS,rfl,fun h=>absurd h hb,(h6.less HX3.out.1 HFOUR.out.1.1 HFOUR.out.1.2.1 HFOUR.out.1.2.2.1 HFOUR.out.1.2.2.2).more (by omega),HMP.out.more (by omega),HWP.out,HT4.out.trans t6⟩)
              clear h6 t6 hR HPUT HERA HMP HWP HIDN HT4 HROWA hb;go_wp2_with fail
              go_ret3
              exact HE.out
       · have q1:(ej != 0)=true:=by simp[he]
         have hR:=HER.out.trans (ZdO hRj.symm he)
         have HE:=hid (show Zar w w5 X x p q r a (N+112) S R (.returned (.tuple #[.int .i64 0,.bool false,.int .i64 ej]))from by
          rw[hR]
          exact⟨T,rfl,fun h=>absurd h he,(h4.less HX3.out.1 HFOUR.out.1.1 HFOUR.out.1.2.1 HFOUR.out.1.2.2.1 HFOUR.out.1.2.2.2).more (by omega),m4.more (by omega),tw4.trans HSW.out,HT3.out.trans t4⟩)
         clear hR h4 m4 tw4 t4 hT HER HROW HT3 he hRj;go_wp2_with fail
         go_ret3
         exact HE.out
     · have k2f:(f != 0)=true:=by simp[hf0]
       have HTK3:=hid (HTAKE2.out w3 h13);have HT13:=hid (HV.out w3 h13).2;have HS3:=hid (Nat.le_trans H2.out.size h3.size);have E3:=hid (HER3.out hf0);have E4:=hid (HER4.out hf0);clear hown h3 h13 hk' HLI2 HTAKE2 HER3 HER4 HER5 HV hf0;obtain⟨⟨TL_,te⟩,TS⟩:=TR;simp only at E3 E4 HTO HTK3;go_wp2_with fail;refine HTK3.out.mono ?_;rintro e wL⟨u,ST,rfl,hT,own4,⟨X3,hx1,hx2,rs4⟩,ms4,tw4,tt4⟩;simp only at hT own4 ⊢;clear HTK3;by_cases hte:te=0
       · subst hte;obtain rfl:=hT (by first|rfl|trivial);have HER:=hid (E4.out (by first|rfl|trivial));obtain⟨DL,hDL⟩:∃DL,DL=TL_:=⟨_,rfl⟩
         subst hDL;obtain⟨A2,k2,rfl,hk'⟩:=own4.shape;have hl3:DL.length=n:=(HTO.out.1 (by first|rfl|trivial)).trans HLEN.out.1;have hdok:∀z∈DL,ZaE z:=HTO.out.2;rw[hl3]at own4 hk' hx2 ⊢;have own:=own4;have hRS:=rs4;have hMM:=ms4;have HX3:=hid (And.intro hx1 hx2);have HSW:=hid tw4;have HT3:=hid (HT13.out.trans tt4);clear own4 rs4 ms4 tw4 tt4 hT E3 E4 HTO HT13 hx1 hx2;obtain⟨g2,rfl,hg2,hrow⟩:=ZbI.of_own own (by omega);have hgx:=HX3.out.2 g2 (by simp[Value.ownBlock]);have hg4:g2≠x/\g2≠p/\g2≠q/\g2≠r:=by have:=HFOUR.out.2;have:=HS3.out;omega
         have HROW:=hid (show ∀W,Za (fun k=>k=q∨k=r) wL W->ZbI W g2 n k2 DL from fun W hW=>hrow.keep (hW.block g2 hrow.lt (fun e=>by rcases e with e|e;exact hg4.2.2.1 e;exact hg4.2.2.2 e)));have HCH:=hid (Zdw (cap:=k2) hRS hMM (by omega) y HYY.out (fun W hW=>(HROW.out W hW).R hdok) (by omega) 0 (-1) 1);rw[Zi6 (f:=f) (by rw[if_neg (by intro e;rw[e]at k2f;exact absurd k2f (by decide))]) hdok]at HCH;have HGG:=hid (And.intro hg2 (And.intro hgx (And.intro hg4 (And.intro hl3 (And.intro hdok hk')))));clear own hg2 hrow hgx hg4 hRS hMM hl3 hdok hk';obtain⟨Rj,hRj⟩:∃Rj,Rj=runC y ST false (DL.map (expCh f)):=⟨_,rfl⟩
         rw[<-hRj]at HCH;obtain⟨⟨bj,ej⟩,Sj⟩:=Rj;go_wp2_with fail;refine HCH.out.mono ?_;rintro u w5⟨b,T,rfl,hT,h4,m4,tw4,t4⟩;simp only at hT ⊢;clear HCH;by_cases he:ej=0
         · subst he;obtain⟨rfl,rfl⟩:=hT (by first|rfl|trivial);have hER:=HER.out;rw[ZdP hRj.symm]at hER;have HER2:=hid hER;have H0:=hid (show ZbI w5 g2 n k2 ((DL.take 0).map Zbo++DL.drop 0)/\ZP w5 X3 x p q r a T (N+n+8*n)/\Za (fun k=>k=q∨k=r) w w5 from⟨by simpa using HROW.out w5 t4,h4,HT3.out.trans t4⟩);have HM4:=hid (And.intro m4 (tw4.trans HSW.out));clear hT h4 m4 tw4 t4 hRj hER HER HROW HT3;go_wp2_with fail
           go_loopw[18] (fun iv wr=>∃j:Nat,j<=n/\iv=.int .i64 j/\Hid (ZbI wr g2 n k2 ((DL.take j).map Zbo++DL.drop j)/\ZP wr X3 x p q r a T (N+n+8*n)/\Za (fun k=>k=q∨k=r) w wr)) (fun iv _=>n-(intOf iv).toNat)
           case atStart=>exact⟨0,Nat.zero_le _,rfl,H0⟩
           case round=>
            clear H0;obtain⟨j,hj,rfl,HJ⟩:=hrel;by_cases hlt:j<n
            · have hlt':(j:Int)<(n:Int):=by omega
              have hj0:(0:Int)<=(j:Int):=by omega
              obtain⟨hrow,hv,ht⟩:=HJ.out;obtain⟨z,hz⟩:∃z,DL[j]?=some z:=⟨_,List.getElem?_eq_getElem (by rw[HGG.out.2.2.2.1];exact hlt)⟩
              obtain⟨c0,c1,c2,c3⟩:=hrow.cells (Zc6 hz);have fz:=hrow.frozen (j*4+2);have hset:=hrow.set (Zc6 hz) z.o;rw[Zha hz]at hset
              have HJ2:=hid (show ZbI (wr.setCell ⟨g2,j*4+2,none⟩ (.int .i64 z.o)) g2 n k2 ((DL.take (j+1)).map Zbo++DL.drop (j+1))/\ZP (wr.setCell ⟨g2,j*4+2,none⟩ (.int .i64 z.o)) X3 x p q r a T (N+n+8*n)/\Za (fun k=>k=q∨k=r) w (wr.setCell ⟨g2,j*4+2,none⟩ (.int .i64 z.o))from
               ⟨hset,hv.boxSet HGG.out.2.1 HGG.out.2.2.1 _ _,ZdA ht (Nat.le_trans HS3.out HGG.out.1)⟩)
              clear hrow hv ht hz hset HJ;obtain⟨zn,zo,zl,zc⟩:=z;simp only at HJ2 c0 c1 c2 c3;go_wp2_with fail;go_roundw
              case rel=>exact⟨j+1,by omega,by go_num,HJ2⟩
              case measure=>simp[intOf];omega
            · obtain rfl:j=n:=by omega
              obtain⟨hrow,hv,ht⟩:=HJ.out
              have htk:(DL.take j).map Zbo++DL.drop j=DL.map Zbo:=by
               rw[List.take_of_length_le (by have:=HGG.out.2.2.2.1;omega),List.drop_eq_nil_of_le (by have:=HGG.out.2.2.2.1;omega),List.append_nil]
              rw[htk]at hrow;obtain⟨DA,hDA⟩:∃DA,DA=DL.map Zbo:=⟨_,rfl⟩
              have hDAok:∀z∈DA,ZaE z:=by rw[hDA];exact Zdp HGG.out.2.2.2.2.1
              have hDAl:DA.length=j:=by rw[hDA,List.length_map];exact HGG.out.2.2.2.1
              have HERA:=hid HER2.out;rw[<-hDA]at hrow HERA;have HROWA:=hid (show ∀W,Za (fun k=>k=q∨k=r) wr W->DlE.R W W.heap.size (some ⟨g2,0,none⟩) j DA from fun W hW=>(hrow.keep (hW.block g2 hrow.lt (fun e=>by rcases e with e|e;exact HGG.out.2.2.1.2.2.1 e;exact HGG.out.2.2.1.2.2.2 e))).R hDAok)
              have hDOK:ZmW ⟨0,3,y,f,0⟩:=by
               intro z hz;simp only[List.mem_cons,List.not_mem_nil,or_false]at hz;rcases hz with rfl|rfl|rfl|rfl|rfl
               · omega
               · omega
               · exact HYY.out
               · exact HFF.out
               · omega
              have HPUT:=hid (ZbH hv (by omega) ⟨0,3,y,f,0⟩ hDOK (HROWA.out wr (Za.refl _ _)) HGG.out.2.2.2.2.2 (by unfold maxLen;omega));have HMP:=hid (Za2 HM4.out.1 ⟨0,3,y,f,0⟩ DA);have HWP:=hid ((ZbX T ⟨0,3,y,f,0⟩ DA).trans HM4.out.2);have HIDN:=hid (Zfc T ⟨0,3,y,f,0⟩ DA);have HT4:=hid ht;have HDA:=hid hDAl;clear hrow hv ht htk HJ HER2 HM4 hDOK hDAok hDAl hDA;generalize putDoc T ⟨0,3,y,f,0⟩ DA=PD at HPUT HERA HMP HWP HIDN;obtain⟨⟨pa,pb⟩,PS⟩:=PD;simp only at HPUT HERA HMP HWP HIDN;go_wp2_with fail;refine HPUT.out.mono ?_;rintro u w6⟨rfl,h6,t6⟩;by_cases hb:pb=0
              · have hR:=HERA.out.trans (if_pos hb);subst hb;have HLI:=hid (Zcf (cap:=k2) h6 (by omega) y HYY.out (HROWA.out w6 t6) (by omega));have hjl:=ZaR PS y DA
                have HEN:=hid (show ∀W u,Below w6.heap.size w6 W->Z8 W w6.heap.size u (jLines PS y DA)->(∀z∈jLines PS y DA,Za7 z)->∃A' n' k',u=.slice A' n' k'/\Calls prog 62 #[.pointer (some ⟨x,0,none⟩),.agg #[.int .i64 0,.int .i64 y,.int .i64 3,.int .i64 0,.int .i64 pa,.int .i64 0],.slice A' n' k'] W fun e w'=>e=.returned (.tuple #[.int .i64 (entPut PS y 3 pa (jLines PS y DA)).2.1,.int .i64 (entPut PS y 3 pa (jLines PS y DA)).2.2])/\ZP w' X3 x p q r a (entPut PS y 3 pa (jLines PS y DA)).1 (N+112)/\Za (fun k=>k=q∨k=r) W w' from fun W u hW hown hok=>by
                 obtain⟨A',k',rfl,hk'⟩:=hown.shape;obtain⟨_,_,hr⟩:=hown.read hok;refine⟨A',_,k',rfl,(Zfx (h6.below hW) (by omega) 0 y 3 0 pa 0 HYY.out (by unfold I64;omega) HIDN.out hr (by have:=HDA.out;omega)).mono ?_⟩;rintro e w'⟨rfl,h8,t8⟩
                 exact⟨rfl,h8.more (by have:=HDA.out;omega),t8⟩)
                have HMN:=hid ((Zc7 HMP.out y 3 pa (jLines PS y DA)).more (show _<=N+112 by have:=HDA.out;omega));have HWN:=hid ((Zhd HMP.out.ok y 3 pa (jLines PS y DA)).trans HWP.out);have HT6:=hid (HT4.out.trans t6);have HRR:=hid hR;clear h6 t6 hR hjl HPUT HERA HMP HWP HIDN HT4 HROWA;generalize entPut PS y 3 pa (jLines PS y DA)=EP at HEN HRR HMN HWN;generalize jLines PS y DA=JL at HLI HEN;obtain⟨ES,ei,ee⟩:=EP;simp only at HEN HRR HMN HWN;go_wp2_with fail;refine HLI.out.mono ?_;rintro u w7⟨uv,rfl,hown,hok,hb7⟩;obtain⟨A7,n7,k7,rfl,hcall⟩:=HEN.out w7 uv hb7 hown hok;have HC:=hid hcall;have HT7:=hid (HT6.out.trans (Za.of_below hb7));clear hown hok hb7 hcall HLI HEN HT6;go_wp2_with fail;refine HC.out.mono ?_;rintro u w8⟨rfl,h8,t8⟩
                have HE:=hid (show ∀v:Int,Zar w w8 X x p q r a (N+112) S R (.returned (.tuple #[.int .i64 (if ee=0 then pa else 0),.bool (if ee=0 then b else false),.int .i64 ee]))from fun _=>by
                 have h9:=h8.less HX3.out.1 HFOUR.out.1.1 HFOUR.out.1.2.1 HFOUR.out.1.2.2.1 HFOUR.out.1.2.2.2;rw[HRR.out];by_cases hee:ee=0
                 · rw[if_pos hee,if_pos hee,if_pos hee];subst hee;exact⟨ES,rfl,fun _=>rfl,h9,HMN.out,HWN.out,HT7.out.trans t8⟩
                 · rw[if_neg hee,if_neg hee,if_neg hee]
                   exact⟨ES,rfl,fun h=>absurd h hee,h9,HMN.out,HWN.out,HT7.out.trans t8⟩)
                clear h8 t8 HC HT7 HRR HMN HWN;by_cases hee:ee=0
                · subst hee;have HE2:=hid (HE.out 0);rw[if_pos rfl,if_pos rfl]at HE2;clear HE;go_wp2_with fail
                  go_ret3
                  exact HE2.out
                · have q1:(ee != 0)=true:=by simp[hee]
                  have HE2:=hid (HE.out 0);rw[if_neg hee,if_neg hee]at HE2;clear HE hee;go_wp2_with fail
                  go_ret3
                  exact HE2.out
              · have q1:(pb != 0)=true:=by simp[hb]
                have hR:=HERA.out.trans (if_neg hb)
                have HE:=hid (show Zar w w6 X x p q r a (N+112) S R (.returned (.tuple #[.int .i64 0,.bool false,.int .i64 pb]))from by
                 rw[hR]
                 exact⟨PS,rfl,fun h=>absurd h hb,(h6.less HX3.out.1 HFOUR.out.1.1 HFOUR.out.1.2.1 HFOUR.out.1.2.2.1 HFOUR.out.1.2.2.2).more (by omega),HMP.out.more (by omega),HWP.out,HT4.out.trans t6⟩)
                clear h6 t6 hR HPUT HERA HMP HWP HIDN HT4 HROWA hb;go_wp2_with fail
                go_ret3
                exact HE.out
         · have q1:(ej != 0)=true:=by simp[he]
           have hR:=HER.out.trans (ZdO hRj.symm he)
           have HE:=hid (show Zar w w5 X x p q r a (N+112) S R (.returned (.tuple #[.int .i64 0,.bool false,.int .i64 ej]))from by
            rw[hR]
            exact⟨T,rfl,fun h=>absurd h he,(h4.less HX3.out.1 HFOUR.out.1.1 HFOUR.out.1.2.1 HFOUR.out.1.2.2.1 HFOUR.out.1.2.2.2).more (by omega),m4.more (by omega),tw4.trans HSW.out,HT3.out.trans t4⟩)
           clear hR h4 m4 tw4 t4 hT HER HROW HT3 he hRj;go_wp2_with fail
           go_ret3
           exact HE.out
       · have q1:(te != 0)=true:=by simp[hte]
         have hR:=E3.out hte
         have HE:=hid (show Zar w wL X x p q r a (N+112) S R (.returned (.tuple #[.int .i64 0,.bool false,.int .i64 te]))from by
          rw[hR]
          exact⟨ST,rfl,fun h=>absurd h hte,(rs4.less hx1 HFOUR.out.1.1 HFOUR.out.1.2.1 HFOUR.out.1.2.2.1 HFOUR.out.1.2.2.2).more (by omega),ms4.more (by omega),tw4,HT13.out.trans tt4⟩)
         clear hR own4 rs4 ms4 tw4 tt4 hT E3 E4 HTO HT13 HS3 hte hx1 hx2;go_wp2_with fail
         go_ret3
         exact HE.out
   · have HE:=hid (HBAD.out 1 w2 (by decide) (E.out.2.1 (by first|rfl|trivial) (by decide)) H2.out);clear E HP6 HBAD HLI HTAKE;go_wp2_with fail
     go_ret3
     exact HE.out
 · have k1:(yc != 0)=true:=by simp[h0]
   rw[if_neg h0];have HE:=hid (HBAD.out yc w2 h0 (E.out.1 h0) H2.out);clear E HP6 HBAD HLI HTAKE h0;go_wp2_with fail
   go_ret3
   exact HE.out
end
end Go.Proofs.YtiknkbpojmgbhaaGreat
