/- EntA, ExpD, ExpE, ExpF. Conditions: in each theorem. -/
import Derived.Test.YtiknkbpojmgbhaaGreatViewC
import Derived.Test.YtiknkbpojmgbhaaGreatExpP
import Derived.Test.YtiknkbpojmgbhaaGreatBalB
import Derived.Test.YtiknkbpojmgbhaaGreatRecG
import Derived.Test.YtiknkbpojmgbhaaGreatItfB
import Derived.Deep.RegionHeld3
import Derived.Test.YtiknkbpojmgbhaaGreatExpB
import Derived.Test.YtiknkbpojmgbhaaGreatEncF
import Derived.StillTailTactics
import Derived.Deep.RegionWith
set_option maxHeartbeats 12800000
set_option maxRecDepth 100000
set_option linter.unusedVariables false
open Go.Proofs.Tryz
open Go.Lib (hid)
namespace Go.Proofs.YtiknkbpojmgbhaaGreat
open Go.RowKit Go.Maps
section
variable{w w':World}{X:Nat->Prop}{v m c:Nat}{S:VS}
theorem Zgd(h:Ze w X v m c S){kA vA:Option Addr}{kn kc vn vc:Nat}{K Vl:List Int}(h2:ZqN w kA kn kc vA vn vc K Vl)(hkn:kn<=maxLen)(hvn:vn<=maxLen)(hC:S.C.length<maxLen)(he:putE K Vl=0) :
 Calls prog 276 #[.agg #[.pointer (some ⟨v,0,none⟩)],.agg #[.slice kA kn kc,.slice vA vn vc]] w fun e w'=>e=.returned (.int .i64 0)/\Ze w' X v m c (S.put (tx K) Vl)/\Za (fun k=>k=c) w w':=by
 obtain⟨w1,hw1⟩:∃w1,w1=(w.alloc (.cells #[.pointer (some ⟨v,0,none⟩)] 292)).alloc (.cells #[.slice kA kn kc,.slice vA vn vc] 101):=⟨_,rfl⟩
 have hb1:Below w.heap.size w w1:=by rw[hw1];exact((Below.refl _ _).alloc (Nat.le_refl _) _).alloc (by simp) _
 have g0:w1.heap[w.heap.size]?=some (.cells #[.pointer (some ⟨v,0,none⟩)] 292 (0,0)):=by rw[hw1];exact(((Below.refl (w.alloc _).heap.size _).alloc (Nat.le_refl _) _).block _ (by simp)).trans (heap_alloc_new _ _)
 have g1:w1.heap[w.heap.size+1]?=some (.cells #[.slice kA kn kc,.slice vA vn vc] 101 (0,0)):=by rw[hw1];exact heap_alloc2_new _ _ _
 have c0:w1.cell? ⟨w.heap.size,0,none⟩=some (.pointer (some ⟨v,0,none⟩)):=cell_of_row w1 _ 0 _ _ (0,0) g0;have p0:=ZA g1;have p1:=ZB g1;have HP:=ZcU (k:=kc) (k':=vc) (h.below hb1) (h2.k.below hb1) hb1.size hkn (h2.v.below hb1) hb1.size hvn hC;rw[he,show S.putR K Vl=S.put (tx K) Vl by unfold VS.putR;rw[if_pos he]]at HP;have HP:=hid HP;have HT:=hid (Za.of_below (F:=fun k=>k=c) hb1);clear h h2 hb1 g0 g1;go_enter func276,ntmps276;go_wp2_with fail;rw[<-hw1];clear hw1;go_wp2_with fail;refine HP.out.mono ?_;rintro e w4⟨rfl,h4,t4⟩;have HE:=hid (And.intro h4 (HT.out.trans t4));clear h4 t4 HP c0 p0 p1;go_wp2_with fail;go_ret;exact⟨rfl,HE.out⟩
theorem ZjV(h:Ze w X v m c S)(id ln:Int)(l:Ln)(hi64:I64 id)(hln:I64 ln)(hl:Za7 l)(hC:S.C.length<maxLen) :
 Calls prog 277 #[.int .i64 id,.int .i64 ln,.agg #[.int .i64 l.f,.int .i64 l.o,.int .i64 l.n,.int .i64 l.a]] w fun e w1=>∃kA kc vA vc,e=.returned (.agg #[.slice kA 9 kc,.slice vA 24 vc])/\Below w.heap.size w w1/\
  Calls prog 276 #[.agg #[.pointer (some ⟨v,0,none⟩)],.agg #[.slice kA 9 kc,.slice vA 24 vc]] w1 fun e w2=>e=.returned (.int .i64 0)/\Ze w2 X v m c (S.put (tx (Zi 74 [id,ln])) (Zj 8 [l.f,l.o,l.a]))/\Za (fun k=>k=c) w w2:=by
 refine(Zkr id ln l.f l.o l.n l.a w (fun z hz=>by
  simp only[List.mem_cons,List.not_mem_nil,or_false]at hz;rcases hz with rfl|rfl|rfl|rfl|rfl|rfl
  · exact hl.1
  · exact hl.2.1
  · exact hl.2.2.1
  · exact hl.2.2.2
  · exact hi64
  · exact hln)).mono ?_
 rintro e w1 hp;obtain⟨kA,kc,vA,vc,rfl,h2,hb⟩:=hp.gets (nk:=9) (nv:=24) (by omega) (by simp) rfl rfl;refine⟨kA,kc,vA,vc,rfl,hb,(Zgd (h.below hb) h2 (by decide) (by decide) hC (by unfold putE;rw[if_neg];rw[Zh,show(Zi 74 [id,ln]).length=9 by unfold Zi;rw[Zt];rfl];simp)).mono ?_⟩;rintro e w2⟨rfl,hv,ht⟩;exact⟨rfl,hv,(Za.of_below hb).trans ht⟩
theorem Zis(h:Ze w X v m c S)(a0 a1 a2 a3 a4 a5:Int)(hi:ZbL [a0,a1,a2,a3,a4,a5])(hC:S.C.length<maxLen) :
 Calls prog 279 #[.agg #[.int .i64 a0,.int .i64 a1,.int .i64 a2,.int .i64 a3,.int .i64 a4,.int .i64 a5]] w fun e w1=>∃kA kc vA vc,e=.returned (.agg #[.slice kA 5 kc,.slice vA 40 vc])/\Below w.heap.size w w1/\
  Calls prog 276 #[.agg #[.pointer (some ⟨v,0,none⟩)],.agg #[.slice kA 5 kc,.slice vA 40 vc]] w1 fun e w2=>e=.returned (.int .i64 0)/\Ze w2 X v m c (S.put (tx (Zi 69 [a0])) (Zj 8 [a1,a2,a3,a4,a5]))/\Za (fun k=>k=c) w w2:=by
 refine(Zja a0 a1 a2 a3 a4 a5 w hi).mono ?_;rintro e w1 hp;obtain⟨kA,kc,vA,vc,rfl,h2,hb⟩:=hp.gets (nk:=5) (nv:=40) (by omega) (by simp) rfl rfl;refine⟨kA,kc,vA,vc,rfl,hb,(Zgd (h.below hb) h2 (by decide) (by decide) hC (by unfold putE;rw[if_neg];rw[Zh,show(Zi 69 [a0]).length=5 by unfold Zi;rw[Zt];rfl];simp)).mono ?_⟩;rintro e w2⟨rfl,hv,ht⟩;exact⟨rfl,hv,(Za.of_below hb).trans ht⟩
def Zfb(W:World)(g v:Nat)(a0 y kind n3 of_ by_:Int):Prop:=W.heap[g]?=some (.cells #[.pointer (some ⟨v,0,none⟩)] 292 (0,0))/\W.heap[g+1]?=some (.cells #[.int .i64 a0,.int .i64 y,.int .i64 kind,.int .i64 n3,.int .i64 of_,.int .i64 by_] 121 (0,0))
theorem Zfb.cells{W:World}{g v:Nat}{a0 y kind n3 of_ by_:Int}(h:Zfb W g v a0 y kind n3 of_ by_):W.cell? ⟨g,0,none⟩=some (.pointer (some ⟨v,0,none⟩))/\W.cell? ⟨g+1,1,none⟩=some (.int .i64 y)/\W.cell? ⟨g+1,2,none⟩=some (.int .i64 kind)/\W.cell? ⟨g+1,4,none⟩=some (.int .i64 of_):=
 ⟨cell_of_row W g 0 _ _ (0,0) h.1,cell_of_row W (g+1) 1 _ _ (0,0) h.2,cell_of_row W (g+1) 2 _ _ (0,0) h.2,cell_of_row W (g+1) 4 _ _ (0,0) h.2⟩
theorem Zfb.touch{W W':World}{g v c:Nat}{a0 y kind n3 of_ by_:Int}(h:Zfb W g v a0 y kind n3 of_ by_)(ht:Za (fun k=>k=c) W W')(h1:g≠c)(h2:g+1≠c):Zfb W' g v a0 y kind n3 of_ by_:=
 ⟨(ht.block g (Array.getElem?_eq_some_iff.1 h.1).1 h1).trans h.1,(ht.block (g+1) (Array.getElem?_eq_some_iff.1 h.2).1 h2).trans h.2⟩
theorem ZlL(h:Ze w X v m c S)(hok:S.Ok)(a0 y kind n3 of_ by_:Int)(hy:I64 y)(hkind:I64 kind)(hof:I64 of_){n k:Nat}{A:Option Addr}{l:List Ln}(hr:∀W,Za (fun k=>k=c) w W->RL W W.heap.size A n l)(hn:n<=2147483647)(hC:S.C.length<=2147483647) :
 Calls prog 247 #[.agg #[.pointer (some ⟨v,0,none⟩)],.agg #[.int .i64 a0,.int .i64 y,.int .i64 kind,.int .i64 n3,.int .i64 of_,.int .i64 by_],.slice A n k] w fun e w'=>e=.returned (.tuple #[.int .i64 (Z7 S y kind of_ l).2.1,.int .i64 (Z7 S y kind of_ l).2.2])/\Ze w' X v m c (Z7 S y kind of_ l).1/\Za (fun k=>k=c) w w':=by
 have hcl:c<w.heap.size:=h.lt c h.xc;obtain⟨w1,hw1⟩:∃w1,w1=(w.alloc (.cells #[.pointer (some ⟨v,0,none⟩)] 292)).alloc (.cells #[.int .i64 a0,.int .i64 y,.int .i64 kind,.int .i64 n3,.int .i64 of_,.int .i64 by_] 121):=⟨_,rfl⟩
 have hb1:Below w.heap.size w w1:=by rw[hw1];exact((Below.refl _ _).alloc (Nat.le_refl _) _).alloc (by simp) _
 have hbox:Zfb w1 w.heap.size v a0 y kind n3 of_ by_:=by
  rw[hw1];exact⟨(((Below.refl (w.alloc _).heap.size _).alloc (Nat.le_refl _) _).block _ (by simp)).trans (heap_alloc_new _ _),heap_alloc2_new _ _ _⟩
 have hv1:=h.below hb1;have HT1:=hid (Za.of_below (F:=fun k=>k=c) hb1);have HC1:=hid (Zd7 hv1 y hy);have HBX:=hid (show ∀W,Za (fun k=>k=c) w1 W->Zfb W w.heap.size v a0 y kind n3 of_ by_ from fun W hW=>hbox.touch hW (by omega) (by omega));have HRW:=hid (show ∀W,Za (fun k=>k=c) w1 W->RL W W.heap.size A n l from fun W hW=>hr W ((Za.of_below hb1).trans hW));obtain⟨d0,d1,d2,d3⟩:=hbox.cells;have HOK:=hid hok;have HV1:=hid hv1;have HCC:=hid hC;obtain⟨ce,hce⟩:∃ce,ce=Zoz (stV (S.now (ZbO y))):=⟨_,rfl⟩
 rw[<-hce]at HC1;by_cases h1:ce≠0
 · have hb:(ce != 0)=true:=by simp[h1]
   have HEQ:=hid (show Z7 S y kind of_ l=(S,0,ce) by unfold Z7;rw[<-hce,if_pos h1]);clear hce h1 h hok hr hv1 hbox;go_enter func247,ntmps247;go_wp2_with fail;rw[<-hw1];clear hw1;go_wp2_with fail;refine HC1.out.mono ?_;rintro e w2⟨rfl,hb2⟩;have HE:=hid (And.intro (HV1.out.below hb2) (HT1.out.trans (Za.of_below hb2)));clear hb2;go_wp2_with fail;go_ret2;rw[HEQ.out];exact⟨rfl,HE.out⟩
 have hb:(ce != 0)=false:=by simpa using h1
 obtain⟨ne,hne⟩:∃ne,ne=nextE (seqV (S.now (tx (Zi 83 [1])))):=⟨_,rfl⟩
 have hne64:I64 ne.1:=by
  rw[hne];unfold nextE;split
  · unfold I64;simp only[];omega
  · rename_i hq
    unfold I64;simp only[];omega
 have hcnext:=Zac.next hok 1
 have HNX:=hid (show ∀W,Below w1.heap.size w1 W->Calls prog 190 #[.pointer (some ⟨v,0,none⟩),.int .i64 1] W fun e w'=>e=.returned (.tuple #[.int .i64 ne.1,.int .i64 ne.2])/\Ze w' X v m c (S.next 1)/\Za (fun k=>k=c) W w' from fun W hW=>by
  have:=Zjl (hv1.below hW) 1 (by omega) (Nat.lt_of_le_of_lt hC (by unfold maxLen;omega))
  rw[<-hne]at this
  exact this)
 have hunf:Z7 S y kind of_ l=if ne.2≠0 then(S.next 1,0,ne.2)else if(Zo y ne.1 (S.next 1) 0 l).2≠0 then((Zo y ne.1 (S.next 1) 0 l).1,0,(Zo y ne.1 (S.next 1) 0 l).2)else((Zo y ne.1 (S.next 1) 0 l).1.put (tx (Zi 69 [ne.1])) (Zj 8 [y,kind,(l.length:Int),of_,0]),ne.1,0):=by
  unfold Z7;rw[<-hce,if_neg h1,<-hne]
 by_cases h2:ne.2≠0
 · have hb2:(ne.2 != 0)=true:=by simp[h2]
   have HEQ:=hid (show Z7 S y kind of_ l=(S.next 1,0,ne.2) by rw[hunf,if_pos h2]);clear hce h1 h hok hr hv1 hbox hunf h2 hne hcnext hne64;obtain⟨id,er⟩:=ne;simp only at HNX hb2 HEQ;go_enter func247,ntmps247;go_wp2_with fail;rw[<-hw1];clear hw1;go_wp2_with fail;refine HC1.out.mono ?_;rintro e w2⟨rfl,hb2'⟩;have HN2:=hid (HNX.out w2 hb2');have hT2:=Za.of_below (F:=fun k=>k=c) hb2';obtain⟨d0,d1,d2,d3⟩:=(HBX.out w2 hT2).cells;have HT2:=hid (HT1.out.trans hT2);clear hb2' hT2;go_wp2_with fail;refine HN2.out.mono ?_;rintro e w3⟨rfl,h3,t3⟩;have HE:=hid (And.intro h3 (HT2.out.trans t3));clear h3 t3;go_wp2_with fail;go_ret2;rw[HEQ.out];exact⟨rfl,HE.out⟩
 have hb2:(ne.2 != 0)=false:=by simpa using h2
 rw[if_neg h2]at hunf;have HUNF:=hid hunf;have HCN:=hid hcnext;have HI:=hid hne64;clear hce h1 h hok hr hv1 hbox hunf h2 hne hcnext hne64;obtain⟨id,er⟩:=ne;simp only at HNX hb2 HUNF HI;go_enter func247,ntmps247;go_wp2_with fail;rw[<-hw1];clear hw1;go_wp2_with fail;refine HC1.out.mono ?_;rintro e w2⟨rfl,hb2'⟩;have HN2:=hid (HNX.out w2 hb2');have hT2:=Za.of_below (F:=fun k=>k=c) hb2';obtain⟨d0,d1,d2,d3⟩:=(HBX.out w2 hT2).cells;have HT2:=hid hT2;clear hb2' hT2 HNX HC1;go_wp2_with fail;refine HN2.out.mono ?_;rintro e w3⟨rfl,h3,t3⟩;have HT3:=hid (HT2.out.trans t3);have H3:=hid (show ∃S',Ze w3 X v m c S'/\Zo y id (S.next 1) 0 l=Zo y id S' 0 (l.drop 0)/\Zac (S.next 1) S' (2*0)from⟨_,h3,rfl,Zac.refl HCN.out.ok⟩);clear h3 t3 HN2 d0 d1 d2 d3;go_wp2_with fail
 go_loopw[36] (fun iv wr=>∃q:Nat,q<=n/\iv=.int .i64 q/\Hid (∃S',Ze wr X v m c S'/\Zo y id (S.next 1) 0 l=Zo y id S' q (l.drop q)/\Zac (S.next 1) S' (2*q))/\Hid (Za (fun k=>k=c) w1 wr)) (fun iv _=>n-(intOf iv).toNat)
 case atStart=>exact⟨0,Nat.zero_le _,rfl,H3,HT3⟩
 case round=>
  clear H3;obtain⟨q,hq,rfl,HM,HTQ⟩:=hrel;obtain⟨S',hvw,hline,hcame⟩:=HM.out;have hrl:=HRW.out wr HTQ.out;obtain⟨d0,d1,d2,d3⟩:=(HBX.out wr HTQ.out).cells;by_cases hlt:q<n
  · have hlt':(q:Int)<(n:Int):=by omega
    obtain⟨x,hx⟩:∃x,l[q]?=some x:=⟨_,List.getElem?_eq_getElem (by rw[hrl.len];exact hlt)⟩
    have hxok:=hrl.ok x (List.mem_of_getElem? hx);obtain⟨bb,off,rfl,hbb,hat⟩:=hrl.2.2 (by omega);obtain⟨l0,l1,l2,l3⟩:=hat q x hx
    have hdrop:l.drop q=x::l.drop (q+1):=by
     obtain⟨hk',e⟩:=List.getElem?_eq_some_iff.1 hx;rw[<-e];exact List.drop_eq_getElem_cons hk'
    obtain⟨w4,hw4⟩:∃w4,w4=wr.alloc (.cells #[.int .i64 x.f,.int .i64 x.o,.int .i64 x.n,.int .i64 x.a] 34 (0,0)):=⟨_,rfl⟩
    have hb4:Below wr.heap.size wr w4:=by rw[hw4];exact(Below.refl _ _).alloc (Nat.le_refl _) _
    have g4:w4.heap[wr.heap.size]?=some (.cells #[.int .i64 x.f,.int .i64 x.o,.int .i64 x.n,.int .i64 x.a] 34 (0,0)):=by rw[hw4];exact heap_alloc_new wr _
    have hgl:wr.heap.size≠c:=by have:=hvw.lt c hvw.xc;omega
    have hSl:S'.C.length<=8589934592:=by have:=hcame.c;have:=HCN.out.c;have:=HCC.out;omega
    have HLS:=hid (ZjV (hvw.below hb4.drew) id q x HI.out (by unfold I64;omega) hxok (by unfold maxLen;omega));have hcp:=hcame.trans (Zac.put hcame.ok (ZbT 74 [id,(q:Int)]) (Zj 8 [x.f,x.o,x.a]));have HT4:=hid (HTQ.out.trans (Za.of_below (F:=fun k=>k=c) hb4));have HL4:=hid (show ∀W,Za (fun k=>k=c) w4 W->W.cell? ⟨wr.heap.size,0,none⟩=some (.int .i64 x.f)/\W.cell? ⟨wr.heap.size,1,none⟩=some (.int .i64 x.o)/\W.cell? ⟨wr.heap.size,2,none⟩=some (.int .i64 x.n)/\W.cell? ⟨wr.heap.size,3,none⟩=some (.int .i64 x.a)from fun W hW=>ZF ((hW.block _ (by have:=(Array.getElem?_eq_some_iff.1 g4).1;exact this) hgl).trans g4));have hdr:Za (fun k=>k=c) w4 w4.drew:=Za.of_below (Below.refl _ _).drew;obtain⟨e0,e1,e2,e3⟩:=HL4.out _ hdr;obtain⟨b0,b1,b2,b3⟩:=(HBX.out _ (HT4.out.trans hdr)).cells;have c5:w4.drew.cell? ⟨w.heap.size,0,none⟩=some (.pointer (some ⟨v,0,none⟩))/\w4.drew.cell? ⟨wr.heap.size,0,none⟩=some (.int .i64 x.f)/\w4.drew.cell? ⟨wr.heap.size,1,none⟩=some (.int .i64 x.o)/\w4.drew.cell? ⟨wr.heap.size,2,none⟩=some (.int .i64 x.n)/\w4.drew.cell? ⟨wr.heap.size,3,none⟩=some (.int .i64 x.a):=⟨b0,e0,e1,e2,e3⟩
    have C5:=hid (show ∀W,Za (fun k=>k=c) w4 W->W.cell? ⟨w.heap.size,0,none⟩=some (.pointer (some ⟨v,0,none⟩))/\W.cell? ⟨wr.heap.size,0,none⟩=some (.int .i64 x.f)/\W.cell? ⟨wr.heap.size,1,none⟩=some (.int .i64 x.o)/\W.cell? ⟨wr.heap.size,2,none⟩=some (.int .i64 x.n)/\W.cell? ⟨wr.heap.size,3,none⟩=some (.int .i64 x.a)from fun W hW=>⟨(HBX.out W (HT4.out.trans hW)).cells.1,HL4.out W hW⟩);have HX:=hid (And.intro hline (And.intro hdrop (And.intro hcp hxok)));have HDR:=hid hdr;clear hrl hat hline hcame hdrop hx hxok hb4 g4 hcp hdr e0 e1 e2 e3 b0 b1 b2 b3 hvw;go_wp2_with fail;rw[<-hw4];clear hw4 l0 l1 l2 l3 d0 d1 d2 d3
    go_region_held3 (fun W=>W.cell? ⟨w.heap.size,0,none⟩=some (.pointer (some ⟨v,0,none⟩))/\W.cell? ⟨wr.heap.size,0,none⟩=some (.int .i64 x.f)/\W.cell? ⟨wr.heap.size,1,none⟩=some (.int .i64 x.o)/\W.cell? ⟨wr.heap.size,2,none⟩=some (.int .i64 x.n)/\W.cell? ⟨wr.heap.size,3,none⟩=some (.int .i64 x.a))
     (first|with_reducible exact c7|with_reducible exact c6|exact c5)
     (first
      | (go_at_call 277;refine HLS.out.mono ?_;rintro e w5 ⟨kA,kc,vA,vc,rfl,hb5,hset⟩;have c6:=C5.out w5 (HDR.out.trans (Za.of_below hb5)))
      | (go_at_call 276;refine hset.mono ?_;rintro e w6 ⟨rfl,hv6,ht6⟩;have c7:=C5.out w6 (HDR.out.trans ht6)))
    obtain⟨hline,hdrop,hcp,hxok⟩:=HX.out;obtain⟨S6,hS6⟩:∃S6,S6=S'.put (tx (Zi 74 [id,(q:Int)])) (Zj 8 [x.f,x.o,x.a]):=⟨_,rfl⟩
    rw[<-hS6]at hv6 hcp;have HBA:=ZlB hv6 y x.f x.o x.n x.a hy hxok.1 hxok.2.1 (by have:=hcp.c;have:=HCN.out.c;have:=HCC.out;unfold maxLen;omega)
    have hunl:Zo y id S' q (x::l.drop (q+1))=if(amtAddR (seqV (S6.now (bKy y x.f x.o))) x.a).2=0 then Zo y id (S6.addB (bKy y x.f x.o) x.a) (q+1) (l.drop (q+1))else(S6.addB (bKy y x.f x.o) x.a,(amtAddR (seqV (S6.now (bKy y x.f x.o))) x.a).2):=by
     rw[hS6]
     conv=>lhs;unfold Zo
    rw[hdrop,hunl]at hline;obtain⟨re,hre⟩:∃re,re=(amtAddR (seqV (S6.now (bKy y x.f x.o))) x.a).2:=⟨_,rfl⟩
    rw[<-hre]at HBA hline;have hcq:=hcp.trans (Zac.addB hcp.ok (show(bKy y x.f x.o).length<=60 by rw[ZgT];omega) x.a);have HBA:=hid HBA;have HT6:=hid (HT4.out.trans (HDR.out.trans ht6));obtain⟨b0,b1,_,_⟩:=(HBX.out w6 HT6.out).cells;obtain⟨_,e0,e1,e2,e3⟩:=c7;by_cases hr0:re=0
    · have hrb:(re != 0)=false:=by simp[hr0]
      rw[if_pos hr0]at hline;have HNX:=hid (And.intro hline hcq);subst hr0;clear hline hdrop hcp hxok hS6 hv6 hunl hre hcq ht6 hset hb5 c5 c6 HX HLS C5 HDR HL4 HT4;go_wp2_with fail;refine HBA.out.mono ?_;rintro e w7⟨rfl,h7,t7⟩;have HN:=hid (show ∃S',Ze w7 X v m c S'/\Zo y id (S.next 1) 0 l=Zo y id S' (q+1) (l.drop (q+1))/\Zac (S.next 1) S' (2*(q+1))from⟨_,h7,HNX.out.1,HNX.out.2.more (by omega)⟩);have HT7:=hid (HT6.out.trans t7);clear h7 t7 HBA;go_wp2_with fail;go_roundw
      case rel=>exact⟨q+1,by omega,by go_num,HN,HT7⟩
      case measure=>simp[intOf];omega
    · have hrb:(re != 0)=true:=by simp[hr0]
      rw[if_neg hr0]at hline;have HEQ:=hid (show Z7 S y kind of_ l=(S6.addB (bKy y x.f x.o) x.a,0,re) by rw[HUNF.out,hline,if_pos hr0]);clear hline hdrop hcp hxok hS6 hv6 hunl hre hcq ht6 hset hb5 c5 c6 HX HLS C5 HDR HL4 HT4 hr0;go_wp2_with fail;refine HBA.out.mono ?_;rintro e w7⟨rfl,h7,t7⟩;have HE:=hid (And.intro h7 (HT1.out.trans (HT6.out.trans t7)));clear h7 t7 HBA;go_wp2_with fail;go_ret2;rw[HEQ.out];exact⟨rfl,HE.out⟩
  · obtain rfl:q=n:=by omega
    have hnl:=hrl.len;have hd0:l.drop q = []:=List.drop_of_length_le (by omega);rw[hd0]at hline;have hline:Zo y id (S.next 1) 0 l=(S',0):=hline;have HEQ:=hid (show Z7 S y kind of_ l=(S'.put (tx (Zi 69 [id])) (Zj 8 [y,kind,(q:Int),of_,0]),id,0) by rw[HUNF.out,hline,if_neg (by simp),hnl]);obtain⟨w4,hw4⟩:∃w4,w4=wr.alloc (.cells #[.int .i64 id,.int .i64 y,.int .i64 kind,.int .i64 q,.int .i64 of_,.int .i64 0] 121 (0,0)):=⟨_,rfl⟩
    have hb4:Below wr.heap.size wr w4:=by rw[hw4];exact(Below.refl _ _).alloc (Nat.le_refl _) _
    have g4:w4.heap[wr.heap.size]?=some (.cells #[.int .i64 id,.int .i64 y,.int .i64 kind,.int .i64 q,.int .i64 of_,.int .i64 0] 121 (0,0)):=by rw[hw4];exact heap_alloc_new wr _
    have hgl:wr.heap.size≠c:=by have:=hvw.lt c hvw.xc;omega
    have HLS:=hid (Zis (hvw.below hb4.drew) id y kind q of_ 0 (fun z hz=>by
     simp only[List.mem_cons,List.not_mem_nil,or_false]at hz;rcases hz with rfl|rfl|rfl|rfl|rfl|rfl
     · exact HI.out
     · exact hy
     · exact hkind
     · omega
     · exact hof
     · omega) (by have:=hcame.c;have:=HCN.out.c;have:=HCC.out;unfold maxLen;omega))
    have HT4:=hid (HTQ.out.trans (Za.of_below (F:=fun k=>k=c) hb4));have HL4:=hid (show ∀W,Za (fun k=>k=c) w4 W->W.cell? ⟨wr.heap.size,0,none⟩=some (.int .i64 id)/\W.cell? ⟨wr.heap.size,1,none⟩=some (.int .i64 y)/\W.cell? ⟨wr.heap.size,2,none⟩=some (.int .i64 kind)/\W.cell? ⟨wr.heap.size,3,none⟩=some (.int .i64 q)/\W.cell? ⟨wr.heap.size,4,none⟩=some (.int .i64 of_)/\W.cell? ⟨wr.heap.size,5,none⟩=some (.int .i64 0)from fun W hW=>Zdi ((hW.block _ (by have:=(Array.getElem?_eq_some_iff.1 g4).1;exact this) hgl).trans g4));have hdr:Za (fun k=>k=c) w4 w4.drew:=Za.of_below (Below.refl _ _).drew;have C5:=hid (show ∀W,Za (fun k=>k=c) w4 W->W.cell? ⟨w.heap.size,0,none⟩=some (.pointer (some ⟨v,0,none⟩))/\W.cell? ⟨wr.heap.size,0,none⟩=some (.int .i64 id)/\W.cell? ⟨wr.heap.size,1,none⟩=some (.int .i64 y)/\W.cell? ⟨wr.heap.size,2,none⟩=some (.int .i64 kind)/\W.cell? ⟨wr.heap.size,3,none⟩=some (.int .i64 q)/\W.cell? ⟨wr.heap.size,4,none⟩=some (.int .i64 of_)/\W.cell? ⟨wr.heap.size,5,none⟩=some (.int .i64 0)from fun W hW=>⟨(HBX.out W (HT4.out.trans hW)).cells.1,HL4.out W hW⟩);have c5:=C5.out _ hdr;have HDR:=hid hdr;clear hrl hline hcame hb4 g4 hdr hvw hnl hd0;go_wp2_with fail;rw[<-hw4];clear hw4 d0 d1 d2 d3
    go_region_held3 (fun W=>W.cell? ⟨w.heap.size,0,none⟩=some (.pointer (some ⟨v,0,none⟩))/\W.cell? ⟨wr.heap.size,0,none⟩=some (.int .i64 id)/\W.cell? ⟨wr.heap.size,1,none⟩=some (.int .i64 y)/\W.cell? ⟨wr.heap.size,2,none⟩=some (.int .i64 kind)/\W.cell? ⟨wr.heap.size,3,none⟩=some (.int .i64 q)/\W.cell? ⟨wr.heap.size,4,none⟩=some (.int .i64 of_)/\W.cell? ⟨wr.heap.size,5,none⟩=some (.int .i64 0))
     (first|with_reducible exact c7|with_reducible exact c6|exact c5)
     (first
      | (go_at_call 279;refine HLS.out.mono ?_;rintro e w5 ⟨kA,kc,vA,vc,rfl,hb5,hset⟩;have c6:=C5.out w5 (HDR.out.trans (Za.of_below hb5)))
      | (go_at_call 276;refine hset.mono ?_;rintro e w6 ⟨rfl,hv6,ht6⟩;have c7:=C5.out w6 (HDR.out.trans ht6)))
    have HE:=hid (And.intro hv6 (HT1.out.trans (HT4.out.trans (HDR.out.trans ht6))));clear hv6 ht6 c5 c6 c7 hset hb5;go_wp2_with fail;go_ret2;rw[HEQ.out];exact⟨rfl,HE.out⟩
theorem ZlM(h:Ze w X v m c S)(hok:S.Ok)(a0 y kind n3 of_ by_:Int)(hy:I64 y)(hkind:I64 kind)(hof:I64 of_){B n k:Nat}{A:Option Addr}{l:List Ln}(hr:RL w B A n l)(hB:B<=w.heap.size)(hn:n<=1073741823)(hC:S.C.length<=2147483647) :
 Calls prog 206 #[.pointer (some ⟨v,0,none⟩),.agg #[.int .i64 a0,.int .i64 y,.int .i64 kind,.int .i64 n3,.int .i64 of_,.int .i64 by_],.slice A n k] w fun e w'=>e=.returned (.tuple #[.int .i64 (entPut S y kind of_ l).2.1,.int .i64 (entPut S y kind of_ l).2.2])/\Ze w' X v m c (entPut S y kind of_ l).1/\Za (fun k=>k=c) w w':=by
 obtain⟨w1,hw1⟩:∃w1,w1=w.alloc (.cells #[.int .i64 a0,.int .i64 y,.int .i64 kind,.int .i64 n3,.int .i64 of_,.int .i64 by_] 121):=⟨_,rfl⟩
 have hb1:Below w.heap.size w w1:=by rw[hw1];exact(Below.refl _ _).alloc (Nat.le_refl _) _
 have g1:w1.heap[w.heap.size]?=some (.cells #[.int .i64 a0,.int .i64 y,.int .i64 kind,.int .i64 n3,.int .i64 of_,.int .i64 by_] 121 (0,0)):=by rw[hw1];exact heap_alloc_new w _
 have hlen:=hr.len;have HV1:=hid (h.below hb1);have HT1:=hid (Za.of_below (F:=fun k=>k=c) hb1);by_cases hbad:n<1∨200<n
 · have HEQ:=hid (show entPut S y kind of_ l=(S,0,1) by unfold entPut;rw[hlen,if_pos hbad]);rcases hbad with hx|hx
   · have k1:decide ((n:Int)<1)=true:=decide_eq_true (by omega);clear h hr hb1 g1 hlen;go_enter func206,ntmps206;go_wp2_with fail;rw[<-hw1];go_ret2;rw[HEQ.out];exact⟨rfl,HV1.out,HT1.out⟩
   · have k1:decide ((n:Int)<1)=false:=decide_eq_false (by omega);have k2:decide ((n:Int)>200)=true:=decide_eq_true (by omega);clear h hr hb1 g1 hlen;go_enter func206,ntmps206;go_wp2_with fail;rw[<-hw1];go_ret2;rw[HEQ.out];exact⟨rfl,HV1.out,HT1.out⟩
 have HEQ:=hid (show entPut S y kind of_ l=Z7 S y kind of_ (l++balL (fundsOf l)) by unfold entPut;rw[hlen,if_neg hbad]);have k1:decide ((n:Int)<1)=false:=decide_eq_false (by omega);have k2:decide ((n:Int)>200)=false:=decide_eq_false (by omega);have hlt:w.heap.size<w1.heap.size:=(Array.getElem?_eq_some_iff.1 g1).1;have HIT:=hid (Zl4 (w:=w1.drew) (k:=k) (hr.below (hb1.drew.mono hB)) (Nat.le_trans hB hb1.size) hn);have hcl0:w.heap.size≠c:=by have:=h.lt c h.xc;omega
 have C5:=hid (show ∀W,Za (fun k=>k=c) w1 W->W.cell? ⟨w.heap.size,0,none⟩=some (.int .i64 a0)/\W.cell? ⟨w.heap.size,1,none⟩=some (.int .i64 y)/\W.cell? ⟨w.heap.size,2,none⟩=some (.int .i64 kind)/\W.cell? ⟨w.heap.size,3,none⟩=some (.int .i64 n3)/\W.cell? ⟨w.heap.size,4,none⟩=some (.int .i64 of_)/\W.cell? ⟨w.heap.size,5,none⟩=some (.int .i64 by_)from fun W hW=>Zdi ((hW.block _ hlt hcl0).trans g1));have c5:=C5.out w1.drew (Za.of_below (Below.refl _ _).drew)
 have HADD:=hid (show ∀W u,Below w1.heap.size w1 W->Z8 W w1.drew.heap.size u (l++balL (fundsOf l))->Calls prog 247 #[.agg #[.pointer (some ⟨v,0,none⟩)],.agg #[.int .i64 a0,.int .i64 y,.int .i64 kind,.int .i64 n3,.int .i64 of_,.int .i64 by_],u] W fun e w'=>e=.returned (.tuple #[.int .i64 (entPut S y kind of_ l).2.1,.int .i64 (entPut S y kind of_ l).2.2])/\Ze w' X v m c (entPut S y kind of_ l).1/\Za (fun k=>k=c) W w' from fun W u hW hown=>by
  have hlok:∀x∈l++balL (fundsOf l),Za7 x:=fun x hx=>by
   rcases List.mem_append.1 hx with hx|hx
   · exact hr.ok x hx
   · exact ZdK (ZaO l hr.ok) x hx
  obtain⟨A',k',rfl,hk'⟩:=hown.shape;have hcl:c<w.heap.size:=h.lt c h.xc;rw[HEQ.out]
  refine ZlL (h.below (hb1.trans (hW.mono hb1.size))) hok a0 y kind n3 of_ by_ hy hkind hof (fun W' hW'=>((hown.stays fun g hg=>hW'.block g (hown.at_ g hg).2 (fun e=>by
   have h1:=(hown.at_ g hg).1;have h2:w1.drew.heap.size=w1.heap.size:=rfl;have h3:=hb1.size
   omega)).read hlok).2.2) (by
   have h1:=Zb5 (fundsOf l);have h2:=Zah l;rw[List.length_append]
   omega) hC)
 have HALL:=hid (HIT.out.mono (R':=fun e w5=>∃u,e=.returned u/\(w5.cell? ⟨w.heap.size,0,none⟩=some (.int .i64 a0)/\w5.cell? ⟨w.heap.size,1,none⟩=some (.int .i64 y)/\w5.cell? ⟨w.heap.size,2,none⟩=some (.int .i64 kind)/\w5.cell? ⟨w.heap.size,3,none⟩=some (.int .i64 n3)/\w5.cell? ⟨w.heap.size,4,none⟩=some (.int .i64 of_)/\w5.cell? ⟨w.heap.size,5,none⟩=some (.int .i64 by_))/\Calls prog 247 #[.agg #[.pointer (some ⟨v,0,none⟩)],.agg #[.int .i64 a0,.int .i64 y,.int .i64 kind,.int .i64 n3,.int .i64 of_,.int .i64 by_],u] w5 fun e w6=>e=.returned (.tuple #[.int .i64 (entPut S y kind of_ l).2.1,.int .i64 (entPut S y kind of_ l).2.2])/\(Ze w6 X v m c (entPut S y kind of_ l).1/\Za (fun k=>k=c) w w6)/\(w6.cell? ⟨w.heap.size,0,none⟩=some (.int .i64 a0)/\w6.cell? ⟨w.heap.size,1,none⟩=some (.int .i64 y)/\w6.cell? ⟨w.heap.size,2,none⟩=some (.int .i64 kind)/\w6.cell? ⟨w.heap.size,3,none⟩=some (.int .i64 n3)/\w6.cell? ⟨w.heap.size,4,none⟩=some (.int .i64 of_)/\w6.cell? ⟨w.heap.size,5,none⟩=some (.int .i64 by_))) fun e w5 z=>by
  obtain⟨u,rfl,hown,hb5⟩:=z;have hb15:Below w1.heap.size w1 w5:=(Below.refl w1.heap.size w1).drew.trans hb5;refine⟨u,rfl,C5.out w5 (Za.of_below hb15),(HADD.out w5 u hb15 hown).mono ?_⟩;rintro e w6⟨rfl,hv6,ht6⟩
  exact⟨rfl,⟨hv6,HT1.out.trans ((Za.of_below hb15).trans ht6)⟩,C5.out w6 ((Za.of_below hb15).trans ht6)⟩)
 clear h hr hb1 g1 hlen hbad hlt HIT HADD;go_enter func206,ntmps206;go_wp2_with fail;rw[<-hw1];clear hw1
 go_region_held3 (fun W=>W.cell? ⟨w.heap.size,0,none⟩=some (.int .i64 a0)/\W.cell? ⟨w.heap.size,1,none⟩=some (.int .i64 y)/\W.cell? ⟨w.heap.size,2,none⟩=some (.int .i64 kind)/\W.cell? ⟨w.heap.size,3,none⟩=some (.int .i64 n3)/\W.cell? ⟨w.heap.size,4,none⟩=some (.int .i64 of_)/\W.cell? ⟨w.heap.size,5,none⟩=some (.int .i64 by_))
  (first|with_reducible exact c7|with_reducible exact c6|exact c5)
  (first
   | (go_at_call 248;refine HALL.out.mono ?_;rintro e w5 ⟨u,rfl,c6,HA2⟩)
   | (go_at_call 247;refine HA2.mono ?_;rintro e w6 ⟨rfl,HE,c7⟩))
 have HE:=hid HE;clear c5 c6 c7 HALL HA2 C5;go_wp2_with fail;go_ret2;exact⟨rfl,HE.out⟩
end
def ZmD(w:World)(T:TypeId)(g v:Nat)(id k y f:Int)(wn:Bool):Prop:=w.heap[g]?=some (.cells #[.pointer (some ⟨v,0,none⟩),.int .i64 id,.int .i64 k,.int .i64 y,.int .i64 f,.int .i64 0,.bool wn] T (0,0))
section
variable{w w':World}{T:TypeId}{g v:Nat}{id k y f:Int}{wn:Bool}
theorem ZmD.cells(h:ZmD w T g v id k y f wn):w.cell? ⟨g,0,none⟩=some (.pointer (some ⟨v,0,none⟩))/\w.cell? ⟨g,1,none⟩=some (.int .i64 id)/\w.cell? ⟨g,2,none⟩=some (.int .i64 k)/\w.cell? ⟨g,3,none⟩=some (.int .i64 y)/\w.cell? ⟨g,4,none⟩=some (.int .i64 f)/\w.cell? ⟨g,5,none⟩=some (.int .i64 0)/\w.cell? ⟨g,6,none⟩=some (.bool wn):=
 ⟨cell_of_row w g 0 _ _ (0,0) h,cell_of_row w g 1 _ _ (0,0) h,cell_of_row w g 2 _ _ (0,0) h,cell_of_row w g 3 _ _ (0,0) h,cell_of_row w g 4 _ _ (0,0) h,cell_of_row w g 5 _ _ (0,0) h,cell_of_row w g 6 _ _ (0,0) h⟩
theorem ZmD.lt(h:ZmD w T g v id k y f wn):g<w.heap.size:=(Array.getElem?_eq_some_iff.1 h).1
theorem ZmD.keep(h:ZmD w T g v id k y f wn)(hk:w'.heap[g]?=w.heap[g]?):ZmD w' T g v id k y f wn:=hk.trans h
end
section
variable{w w':World}{X:Nat->Prop}{v m c g:Nat}{S:VS}{id k y f:Int}{wn:Bool}
theorem ZjW(h:Ze w X v m c S)(hgv:g≠c)(ho:ZmD w 117 g v id k y f wn)(hy:ZS y)(hi64:ZS id){A:Option Addr}{n cap:Nat}{l:List Dl}(hl:DlE.R w w.heap.size A n l)(hn:n<=1000)(hC:S.C.length<=1000000) :
 Calls prog 123 #[.pointer (some ⟨g,0,none⟩),.slice A n cap] w fun e w'=>e=.returned (.int .i64 (entPut S y 3 id (jLines S y l)).2.2)/\Ze w' X v m c (entPut S y 3 id (jLines S y l)).1/\Za (fun k=>k=c) w w':=by
 have hgw:=ho.lt;have hll:=ZaR S y l;have hlen:=hl.len;have hjok:=Zfh (S:=S) (y:=y) (fun n i hn=>h.nodeOk hn) hl.ok;have hd0:=(Below.refl w.heap.size w).drew;obtain⟨w1,hw1⟩:∃w1,w1=(w.alloc (.cells #[.int .i64 0,.int .i64 y,.int .i64 3,.int .i64 0,.int .i64 id,.int .i64 0] 121 (0,0))).drew:=⟨_,rfl⟩
 have hb1:Below w.heap.size w w1:=by rw[hw1];exact((Below.refl _ _).alloc (Nat.le_refl _) _).drew
 have hblk1:w1.heap[w.heap.size]?=some (.cells #[.int .i64 0,.int .i64 y,.int .i64 3,.int .i64 0,.int .i64 id,.int .i64 0] 121 (0,0)):=by rw[hw1];exact heap_alloc_new w _
 have hs1:w1.heap.size=w.heap.size+1:=by rw[hw1];show(w.alloc _).heap.size=_;simp
 have K0:=(ho.keep (hd0.block g hgw)).cells
 have KA:=hid (show ∀W,Below w.heap.size w W->W.cell? ⟨g,1,none⟩=some (.int .i64 id)/\W.cell? ⟨g,3,none⟩=some (.int .i64 y)from fun W hW=>by
  obtain⟨a0,a1,a2,a3,a4,a5,a6⟩:=(ho.keep (hW.block g hgw)).cells
  exact⟨a1,a3⟩)
 have c5:w.drew.cell? ⟨g,1,none⟩=some (.int .i64 id)/\w.drew.cell? ⟨g,3,none⟩=some (.int .i64 y):=⟨K0.2.1,K0.2.2.2.1⟩
 have hcw:=h.lt c h.xc
 have KK:=hid (show ∀W,Za (fun k=>k=c) w1 W->W.cell? ⟨g,0,none⟩=some (.pointer (some ⟨v,0,none⟩))/\W.cell? ⟨g,3,none⟩=some (.int .i64 y)/\W.cell? ⟨w.heap.size,0,none⟩=some (.int .i64 0)/\W.cell? ⟨w.heap.size,1,none⟩=some (.int .i64 y)/\W.cell? ⟨w.heap.size,2,none⟩=some (.int .i64 3)/\W.cell? ⟨w.heap.size,3,none⟩=some (.int .i64 0)/\W.cell? ⟨w.heap.size,4,none⟩=some (.int .i64 id)/\W.cell? ⟨w.heap.size,5,none⟩=some (.int .i64 0)from fun W hW=>by
  obtain⟨a0,a1,a2,a3,a4,a5,a6⟩:=((ho.keep (hb1.block g hgw)).keep (hW.block g (by omega) hgv)).cells;have hb:=(hW.block w.heap.size (by omega) (by omega)).trans hblk1
  exact⟨a0,a3,cell_of_row W _ 0 _ _ (0,0) hb,cell_of_row W _ 1 _ _ (0,0) hb,cell_of_row W _ 2 _ _ (0,0) hb,cell_of_row W _ 3 _ _ (0,0) hb,cell_of_row W _ 4 _ _ (0,0) hb,cell_of_row W _ 5 _ _ (0,0) hb⟩)
 have hd1:=(Below.refl w1.heap.size w1).drew;have HLI:=hid (Zei (cap:=cap) ((h.below hb1).below hd1) y hy ((hl.below (hb1.trans (hd1.mono hb1.size))).more (Nat.le_trans hb1.size hd1.size)) hn)
 have HPUT:=hid (show ∀W u,Below w1.heap.size w1 W->Z8 W w1.drew.heap.size u (jLines S y l)->∃A' n' k',u=.slice A' n' k'/\Calls prog 206 #[.pointer (some ⟨v,0,none⟩),.agg #[.int .i64 0,.int .i64 y,.int .i64 3,.int .i64 0,.int .i64 id,.int .i64 0],.slice A' n' k'] W fun e w'=>e=.returned (.tuple #[.int .i64 (entPut S y 3 id (jLines S y l)).2.1,.int .i64 (entPut S y 3 id (jLines S y l)).2.2])/\Ze w' X v m c (entPut S y 3 id (jLines S y l)).1/\Za (fun k=>k=c) W w' from fun W u hW hown=>by
  obtain⟨A',k',rfl,hk'⟩:=hown.shape;obtain⟨_,_,hr⟩:=hown.read hjok
  exact⟨A',_,k',rfl,ZlM ((h.below hb1).below hW) h.ok 0 y 3 0 id 0 hy (by unfold I64;omega) hi64 hr (Nat.le_refl _) (by omega) (by omega)⟩)
 have HB1:=hid (And.intro hb1 (And.intro hgw (And.intro hs1 (And.intro hgv hcw))));generalize jLines S y l=JL at HLI HPUT ⊢;generalize entPut S y 3 id JL=R at HPUT ⊢;obtain⟨RS,r1,r2⟩:=R;simp only at HPUT ⊢;clear h ho hl hll hlen hjok hd0 hb1 hblk1 hs1 K0 hcw hC;go_enter func123,ntmps123;go_wp2_with fail
 go_region_held3 (fun W=>W.cell? ⟨g,1,none⟩=some (.int .i64 id)/\W.cell? ⟨g,3,none⟩=some (.int .i64 y))
  (first|with_reducible exact c5|exact c5|exact KA.out _ ((Below.refl _ _).alloc (Nat.le_refl _) _).drew|exact KA.out _ ((Below.refl _ _).drew.alloc (Nat.le_refl _) _))
  (first|fail)
 rw[<-hw1];clear hw1 c5 KA;have c5:=KK.out _ (Za.of_below ((Below.refl w1.heap.size w1).drew));have hP:Below w1.heap.size w1 w1.drew:=(Below.refl w1.heap.size w1).drew;go_wp2_with fail
 go_region_held3 (fun W=>W.cell? ⟨g,0,none⟩=some (.pointer (some ⟨v,0,none⟩))/\W.cell? ⟨g,3,none⟩=some (.int .i64 y)/\W.cell? ⟨w.heap.size,0,none⟩=some (.int .i64 0)/\W.cell? ⟨w.heap.size,1,none⟩=some (.int .i64 y)/\W.cell? ⟨w.heap.size,2,none⟩=some (.int .i64 3)/\W.cell? ⟨w.heap.size,3,none⟩=some (.int .i64 0)/\W.cell? ⟨w.heap.size,4,none⟩=some (.int .i64 id)/\W.cell? ⟨w.heap.size,5,none⟩=some (.int .i64 0))
  (first|with_reducible exact c5|exact c5)
  (first
   | (go_at_call 26;refine Calls.mono HLI.out ?_;rintro e w2 ⟨u,rfl,hown,hb2⟩;have hP:=hP.trans (hb2.mono hP.size);have c5:=KK.out _ (Za.of_below hP);obtain⟨A',n',k',rfl,hput⟩:=HPUT.out w2 u hP hown;have hput:=hid hput)
   | (go_at_call 206;refine Calls.mono hput.out ?_;rintro e w3 ⟨rfl,h3,t3⟩;have hT:=(Za.of_below (F:=fun k=>k=c) hP).trans t3;have c5:=KK.out _ hT))
 have HE:=hid (And.intro h3 ((Za.of_below (F:=fun k=>k=c) HB1.out.1).trans hT));clear h3 t3 hT c5 hP hput HPUT HLI KK hown hb2;go_wp2_with fail;go_ret;exact⟨rfl,HE.out⟩
end
theorem Zp6{S:VS}{y f:Int}{l:List Ln}(hS:∀d st,docGet S f=some (d,st)->∀z∈st,ZaE z)(hl:∀x∈l,Za7 x):∀z∈(Zcb S y f l).1.1,ZaE z:=by
 unfold Zcb;split
 · exact Zdp (Zbx hl)
 · exact Zdp (ZeF hS hl)
theorem Znj(S:VS)(y f:Int)(l:List Ln):(Zcb S y f l).2.C.length<=S.C.length+l.length:=by
 unfold Zcb;split
 · exact Nat.le_add_right _ _
 · exact Zga _ _ _ _ _
theorem ZaV(S:VS)(y f:Int)(l:List Ln):expNew S y f l=if yChk S y=0 then(if preChk l=0 then(if(Zcb S y f l).1.2=0 then Zbe (Zcb S y f l).2 y f ((Zcb S y f l).1.1.map (expCh f)) (Zcb S y f l).1.1 else((0,false,(Zcb S y f l).1.2),(Zcb S y f l).2))else((0,false,1),S))else((0,false,yChk S y),S):=rfl
theorem ZdO{S S2:VS}{y f r:Int}{b:Bool}{cs:List Chg}{ls:List Dl}(h:runC y S false cs=((b,r),S2))(hr:r≠0):Zbe S y f cs ls=((0,false,r),S2):=by
 have h1:=ZcL (k:=3) (f:=f) (ls:=ls) h hr;unfold Zbe;rw[h1];exact if_neg hr
theorem ZdP{S S2:VS}{y f:Int}{b:Bool}{cs:List Chg}{ls:List Dl}(h:runC y S false cs=((b,0),S2)):Zbe S y f cs ls=if(putDoc S2 ⟨0,3,y,f,0⟩ ls).1.2=0 then(if(entPut (putDoc S2 ⟨0,3,y,f,0⟩ ls).2 y 3 (putDoc S2 ⟨0,3,y,f,0⟩ ls).1.1 (jLines (putDoc S2 ⟨0,3,y,f,0⟩ ls).2 y ls)).2.2=0 then(((putDoc S2 ⟨0,3,y,f,0⟩ ls).1.1,b,0),(entPut (putDoc S2 ⟨0,3,y,f,0⟩ ls).2 y 3 (putDoc S2 ⟨0,3,y,f,0⟩ ls).1.1 (jLines (putDoc S2 ⟨0,3,y,f,0⟩ ls).2 y ls)).1)else((0,false,(entPut (putDoc S2 ⟨0,3,y,f,0⟩ ls).2 y 3 (putDoc S2 ⟨0,3,y,f,0⟩ ls).1.1 (jLines (putDoc S2 ⟨0,3,y,f,0⟩ ls).2 y ls)).2.2),(entPut (putDoc S2 ⟨0,3,y,f,0⟩ ls).2 y 3 (putDoc S2 ⟨0,3,y,f,0⟩ ls).1.1 (jLines (putDoc S2 ⟨0,3,y,f,0⟩ ls).2 y ls)).1))else((0,false,(putDoc S2 ⟨0,3,y,f,0⟩ ls).1.2),(putDoc S2 ⟨0,3,y,f,0⟩ ls).2):=by
 have h1:=ZcM (k:=3) (f:=f) (ls:=ls) h;unfold Zbe;rw[h1];by_cases h2:(putDoc S2 ⟨0,3,y,f,0⟩ ls).1.2=0
 · rw[if_pos h2,if_pos h2];exact if_pos rfl
 · rw[if_neg h2,if_neg h2];exact(if_neg h2).symm
theorem Zfc(S:VS)(d:Dc)(l:List Dl):ZS (putDoc S d l).1.1:=by
 unfold putDoc;split
 · show ZS 0
   unfold ZS;omega
 · split
   · rename_i h
     have:=Zg2 (S:=S) (n:=2) h
     show ZS (seqV (S.now (tx (Zi 83 [2])))+1);unfold ZS;omega
   · show ZS 0
     unfold ZS;omega
theorem ZjX(S:VS)(d:Dc)(l:List Dl):(putDoc S d l).2.C.length<=S.C.length+8:=by
 have hL:∀(l:List Dl) (S:VS) (i:Int) (j:Nat),(putLs S i j l).C.length<=S.C.length+l.length:=by
  intro l
  induction l with
  | nil=>intro S i j;exact Nat.le_refl _
  | cons x r ih=>
   intro S i j;have h1:=ih (S.putL i j x) i (j+1);have h2:(S.putL i j x).C.length<=S.C.length+1:=ZL _ _ _;rw[List.length_cons]
   show(putLs (S.putL i j x) i (j+1) r).C.length<=_
   omega
 have hN:(S.next 2).C.length<=S.C.length+1:=by
  unfold VS.next;split
  · exact Nat.le_succ _
  · exact ZL _ _ _
 unfold putDoc;split
 · exact Nat.le_add_right _ _
 · split
   · rename_i h6 h
     have h1:=hL l (S.next 2) (seqV (S.now (tx (Zi 83 [2])))+1) 0;have h2:((putLs (S.next 2) (seqV (S.now (tx (Zi 83 [2])))+1) 0 l).putD ⟨seqV (S.now (tx (Zi 83 [2])))+1,d.k,d.y,d.f,l.length⟩).C.length<=(putLs (S.next 2) (seqV (S.now (tx (Zi 83 [2])))+1) 0 l).C.length+1:=ZL _ _ _
     show((putLs (S.next 2) (seqV (S.now (tx (Zi 83 [2])))+1) 0 l).putD _).C.length<=_
     omega
   · exact Nat.le_add_right _ _
def Zfd(w w':World)(X:Nat->Prop)(v m c g:Nat)(y f:Int)(R:(Int×Bool×Int)×VS)(e:Ending):Prop:=
 e=.returned (.int .i64 R.1.2.2)/\Ze w' X v m c R.2/\(R.1.2.2=0->ZmD w' 117 g v R.1.1 3 y f R.1.2.1)/\Za (fun k=>k=c∨k=g) w w'
theorem Zan.idSet{w:World}{T:TypeId}{g v:Nat}{k y f:Int}{wn:Bool}(h:Zan w T g v k y f wn)(id:Int):ZmD (w.setCell ⟨g,1,none⟩ (.int .i64 id)) T g v id k y f wn:=by
 unfold Zan Zra at h;unfold ZmD;exact(heap_setCell_same w g 1 _ _ _ h).trans rfl
section
variable{w w':World}{X X':Nat->Prop}{v m c g:Nat}{S:VS}{T:TypeId}{k y f:Int}{wn:Bool}
theorem Zit(h:Ze w X v m c S)(hg:X g)(hgv:g≠v/\g≠m/\g≠c)(ho:Zan w 117 g v 3 y f false)(hy:ZS y)(hf:ZS f)(hdok:∀d st,docGet S f=some (d,st)->∀z∈st,ZaE z){A:Option Addr}{n cap:Nat}{l:List Ln}(hl:∀W,Za (fun k=>k=c∨k=g) w W->RL W W.heap.size A n l)(hcap:n<=cap)(hn:n<=maxLen)(hC:S.C.length<=90000) :
 Calls prog 61 #[.pointer (some ⟨g,0,none⟩),.slice A n cap] w fun e w'=>Zfd w w' X v m c g y f (expNew S y f l) e:=by
 have hd:=(Below.refl w.heap.size w).drew;have hcw:=h.lt c h.xc;have hgw:=ho.lt;have HY:=hid (Zd7 (h.below hd) y hy);have HYR:=hid (show Zoz (stV (S.now (ZbO y)))=yChk S y from rfl)
 have K:=hid (show ∀W,Below w.heap.size w W->(W.cell? ⟨g,0,none⟩=some (.pointer (some ⟨v,0,none⟩))/\W.cell? ⟨g,3,none⟩=some (.int .i64 y))/\Zan W 117 g v 3 y f false/\Ze W X v m c S/\Za (fun k=>k=c∨k=g) w W from fun W hW=>by
  have ho2:=ho.keep (hW.block g hgw);obtain⟨c0,c1,c2,c3,c4,c5,c6⟩:=ho2.cells
  exact⟨⟨c0,c3⟩,ho2,h.below hW,Za.of_below hW⟩)
 have HL:=hid hl;have HG:=hid (And.intro hg hgv);have hlen:l.length=n:=(hl w (Za.refl _ _)).len;have hlok:=(hl w (Za.refl _ _)).ok;have HLEN:=hid (And.intro hlen (And.intro hlok hC));have e1:yChk S y≠0->expNew S y f l=((0,false,yChk S y),S):=fun h=>by rw[ZaV,if_neg h]
 have e2:yChk S y=0->preChk l≠0->expNew S y f l=((0,false,1),S):=fun h g=>by rw[ZaV,if_pos h,if_neg g]
 have e3:yChk S y=0->preChk l=0->(Zcb S y f l).1.2≠0->expNew S y f l=((0,false,(Zcb S y f l).1.2),(Zcb S y f l).2):=fun h g q=>by rw[ZaV,if_pos h,if_pos g,if_neg q]
 have e4:yChk S y=0->preChk l=0->(Zcb S y f l).1.2=0->expNew S y f l=Zbe (Zcb S y f l).2 y f ((Zcb S y f l).1.1.map (expCh f)) (Zcb S y f l).1.1:=fun h g q=>by rw[ZaV,if_pos h,if_pos g,if_pos q]
 have HPC:=hid (fun W (hW:Below w.heap.size w W)=>Zem cap (hl W (Za.of_below hW)) hn (Nat.le_refl W.heap.size));have hp01:preChk l=0∨preChk l=1:=by unfold preChk;split;exact .inr rfl;exact .inl rfl
 have HP6:=hid (fun h=>Zbp (l:=l) h);have HLI:=hid (show ∀W,Below w.heap.size w W->n<=6->Calls prog 121 #[.pointer (some ⟨g,0,none⟩),.slice A n cap] W fun e w'=>Zio W w' X v m c (Zcb S y f l) e from fun W hW h6=>Zir (h.below hW) hgv.2.2 (ho.keep (hW.block g hgw)) hf (fun V hV=>hl V ((Za.of_below hW).trans (hV.mono fun k hk=>.inl hk))) (by omega) (by omega));have HEL:=hid (And.intro (fun h=>Zk6 (S:=S) (y:=y) (f:=f) (l:=l) h) (And.intro (Zp6 (y:=y) hdok hlok) (Znj S y f l)));have E:=hid (And.intro e1 (And.intro e2 (And.intro e3 e4)));have c5:=(K.out _ hd).1;have HYY:=hid (And.intro hy hf);have HM3:=hid (And.intro h.xv (And.intro h.xm h.xc));clear e1 e2 e3 e4 h ho hl hlok hC hd hy hf hdok;obtain⟨R,hR⟩:∃R,R=expNew S y f l:=⟨_,rfl⟩
 rw[<-hR]at E ⊢;clear hR;unfold maxLen at hn;obtain⟨yc,hyc⟩:∃yc,yc=yChk S y:=⟨_,rfl⟩
 rw[HYR.out,<-hyc]at HY;rw[<-hyc]at E;clear hyc HYR;obtain⟨pc,hpc⟩:∃pc,pc=preChk l:=⟨_,rfl⟩
 rw[<-hpc]at E HPC hp01 HP6;clear hpc;obtain⟨LR,hLR⟩:∃LR,LR=Zcb S y f l:=⟨_,rfl⟩
 rw[<-hLR]at E HLI HEL;clear hLR;go_enter func61,ntmps61;go_wp2_with fail
 go_region_held3 (fun W=>W.cell? ⟨g,0,none⟩=some (.pointer (some ⟨v,0,none⟩))/\W.cell? ⟨g,3,none⟩=some (.int .i64 y))
  (first|with_reducible exact c5|exact c5)
  (first|(go_at_call 99;refine Calls.mono HY.out ?_;rintro e w2 ⟨rfl,h2⟩;have h2:=((Below.refl w.heap.size w).drew).trans h2;have c5:=(K.out _ h2).1))
 have H2:=hid h2;clear c5 h2 HY;by_cases h0:yc=0
 · subst h0;have HPC2:=hid (HPC.out w2 H2.out);clear HPC;go_wp2_with fail;refine HPC2.out.mono ?_;rintro e w3⟨rfl,h3⟩;have H3:=hid (H2.out.trans (h3.mono H2.out.size));clear h3 HPC2 H2;rcases hp01 with rfl|rfl
   · obtain⟨n1,n6,hra⟩:=HP6.out (by first|rfl|trivial);rw[HLEN.out.1]at n1 n6;have E3:=hid (fun h=>E.out.2.2.1 (by first|rfl|trivial) (by first|rfl|trivial) h);have E4:=hid (fun h=>E.out.2.2.2 (by first|rfl|trivial) (by first|rfl|trivial) h);have HLI3:=hid (HLI.out w3 H3.out n6);have HO3:=hid (K.out w3 H3.out).2;have HS3:=hid H3.out.size;clear E HP6 HLI K hra;obtain⟨⟨LL,le⟩,LS⟩:=LR;simp only at E3 E4 HEL;go_wp2_with fail;refine HLI3.out.mono ?_;rintro e w4⟨u,X2,x1,x2,x3,rfl,h4',o4,t4⟩;have h4:=h4'.less x1 HM3.out.1 HM3.out.2.1 HM3.out.2.2;clear HLI3 x1 x2 x3 h4';have ht4:Za (fun k=>k=c∨k=g) w w4:=HO3.out.2.2.trans (t4.mono fun k hk=>.inl hk);by_cases hle:le=0
     · subst hle;have hER:=E4.out (by first|rfl|trivial);obtain⟨l1,l2,l3⟩:=HEL.out;have hll:=l1 (by first|rfl|trivial);rw[HLEN.out.1]at hll;obtain⟨A',k',rfl,hk'⟩:=o4.shape;rw[hll]at o4 hk' ⊢;have hs3:=HS3.out
       have HROW:=hid (show ∀W,Za (fun k=>k=c∨k=g) w4 W->DlE.R W W.heap.size A' n LL from fun W hW=>by
        have ho:=o4.stays (w':=W) fun q hq=>hW.block q (o4.at_ q hq).2 (fun e=>by have:=(o4.at_ q hq).1;rcases e with e|e <;> omega)
        exact(ho.read l2).2.2)
       have ho4:Zan w4 117 g v 3 y f false:=HO3.out.1.keep (t4.block g (by omega) (fun e=>HG.out.2.2.2 e));have H0:=hid (show Zeh w w4 X v m c g 117 LS 3 y f ((LL.map (expCh f)).take 0)/\Za (fun k=>k=c∨k=g) w4 w4 from⟨⟨rfl,h4,ho4,ht4⟩,Za.refl _ _⟩);have HER:=hid hER;have HLL:=hid (And.intro hll (And.intro l2 (And.intro l3 (And.intro hk' t4.size))));clear hER l1 l2 l3 hll o4 hk' h4 ho4 t4 ht4 E3 E4 HEL HO3 hs3;go_wp2_with fail
       go_loopw[41] (fun iv wr=>∃j:Nat,j<=n/\iv=.int .i64 j/\Hid (Zeh w wr X v m c g 117 LS 3 y f ((LL.map (expCh f)).take j)/\Za (fun k=>k=c∨k=g) w4 wr)) (fun iv _=>n-(intOf iv).toNat)
       case atStart=>exact⟨0,Nat.zero_le _,rfl,H0⟩
       case round=>
        clear H0;obtain⟨j,hj,rfl,HJ⟩:=hrel;by_cases hlt:j<n
        · have hlt':(j:Int)<(n:Int):=by omega
          have hj0:(0:Int)<=(j:Int):=by omega
          obtain⟨⟨hz,hv,hor,ht⟩,ht4⟩:=HJ.out;obtain⟨x,hx⟩:∃x,LL[j]?=some x:=⟨_,List.getElem?_eq_getElem (by rw[HLL.out.1];exact hlt)⟩
          have hxok:=HLL.out.2.1 x (List.mem_of_getElem? hx);obtain⟨b,off,rfl,hb,c0,c1,c2,c3⟩:=ZlF (HROW.out wr ht4) hx;obtain⟨wb,hwb⟩:∃wb,wb=wr.alloc (.cells #[.int .i64 x.nd,.int .i64 x.o,.int .i64 x.l,.int .i64 x.c] 50 (0,0)):=⟨_,rfl⟩
          have hbb:Below wr.heap.size wr wb:=by rw[hwb];exact(Below.refl _ _).alloc (Nat.le_refl _) _
          have hCj:=Zdv y ((LL.map (expCh f)).take j) LS false;rw[List.length_take]at hCj;have hxm:(LL.map (expCh f))[j]?=some (expCh f x):=by rw[List.getElem?_map,hx];rfl
          have hwr:=ht.size;have HCH:=hid (Zg9 (hv.below hbb) HG.out.1 HG.out.2 (hor.keep (hbb.block g (Nat.lt_of_lt_of_le hgw ht.size))) HYY.out.1 x hxok (by have:=HLEN.out.2.2;have:=HLL.out.2.2.1;have:=HLEN.out.1;omega));have HOK:=hid (fun h2=>Zfq hxm hz h2);have HBAD:=hid (fun h2=>Zhv hxm hz h2);have HT:=hid (show Za (fun k=>k=c∨k=g) w wb/\Za (fun k=>k=c∨k=g) w4 wb from⟨ht.trans (Za.of_below hbb),ht4.trans (Za.of_below hbb)⟩);clear hz hv hor ht ht4 hx hb hbb hCj hxm HJ hxok hwr;generalize runC y LS false ((LL.map (expCh f)).take j)=Rj at HCH HOK HBAD;obtain⟨⟨bj,ej⟩,Sj⟩:=Rj;simp only at HCH HOK HBAD;generalize chargeR Sj y (expCh f x).i (expCh f x).p (expCh f x).e (expCh f x).q=R2 at HCH HOK HBAD;obtain⟨⟨r1,r2⟩,S2⟩:=R2;obtain⟨xn,xo,xl,xc⟩:=x;simp only at HCH HOK HBAD hwb c0 c1 c2 c3;go_wp2_with fail;rw[<-hwb];clear hwb c0 c1 c2 c3;refine HCH.out.mono ?_;rintro e w5⟨rfl,h5,o5,t5⟩;clear HCH;by_cases hr2:r2=0
          · subst hr2;have hR:=HOK.out (by first|rfl|trivial)
            have HJ:=hid (show Zeh w w5 X v m c g 117 LS 3 y f ((LL.map (expCh f)).take (j+1))/\Za (fun k=>k=c∨k=g) w4 w5 from by
             refine⟨?_,HT.out.2.trans t5⟩;unfold Zeh;rw[hR]
             exact⟨rfl,h5,o5,HT.out.1.trans t5⟩)
            clear hR h5 o5 t5 HT HOK HBAD;go_wp2_with fail;go_roundw
            case rel=>exact⟨j+1,by omega,by go_num,HJ⟩
            case measure=>simp[intOf];omega
          · have k1:(r2 != 0)=true:=by simp[hr2]
            have hR:=HER.out.trans (ZdO (HBAD.out hr2) hr2)
            have HE:=hid (show Zfd w w5 X v m c g y f R (.returned (.int .i64 r2))from by
             rw[hR]
             exact⟨rfl,h5,fun h=>absurd h hr2,HT.out.1.trans t5⟩)
            clear hR h5 o5 t5 HT HOK HBAD HER hr2;go_wp2_with fail;go_ret;exact HE.out
        · obtain rfl:j=n:=by omega
          obtain⟨⟨hz,hv,hor,ht⟩,ht4⟩:=HJ.out;have htm:(LL.map (expCh f)).take j=LL.map (expCh f):=List.take_of_length_le (by rw[List.length_map];have:=HLL.out.1;omega);rw[htm]at hz hv hor;have hCj:=Zdv y (LL.map (expCh f)) LS false;rw[List.length_map]at hCj;have hER:=HER.out;obtain⟨Rj,hRj⟩:∃Rj,Rj=runC y LS false (LL.map (expCh f)):=⟨_,rfl⟩
          rw[<-hRj]at hz hv hor hCj;obtain⟨⟨bj,ej⟩,Sj⟩:=Rj;simp only at hz hv hor hCj;subst hz;rw[ZdP hRj.symm]at hER;have hdr:=(Below.refl wr.heap.size wr).drew
          have hDOK:ZmW ⟨0,3,y,f,0⟩:=by
           intro q hq;simp only[List.mem_cons,List.not_mem_nil,or_false]at hq;rcases hq with rfl|rfl|rfl|rfl|rfl
           · omega
           · omega
           · exact HYY.out.1
           · exact HYY.out.2
           · omega
          have hCS:Sj.C.length<=95000:=by have:=HLEN.out.2.2;have:=HLL.out.2.2.1;have:=HLEN.out.1;have:=HLL.out.1;omega
          have HPUT:=hid (ZeV (hv.below hdr) ⟨0,3,y,f,0⟩ hDOK (HROW.out wr.drew (ht4.trans (Za.of_below hdr))) HLL.out.2.2.2.1 (by unfold maxLen;omega) (by omega));have hog:=hor.lt
          have K:=hid (show ∀W,Za (fun k=>k=c) wr.drew W->(W.cell? ⟨g,0,none⟩=some (.pointer (some ⟨v,0,none⟩))/\W.cell? ⟨g,1,none⟩=some (.int .i64 0)/\W.cell? ⟨g,2,none⟩=some (.int .i64 3)/\W.cell? ⟨g,3,none⟩=some (.int .i64 y)/\W.cell? ⟨g,4,none⟩=some (.int .i64 f)/\W.cell? ⟨g,5,none⟩=some (.int .i64 0))/\Zan W 117 g v 3 y f bj from fun W hW=>by
           have ho2:=(hor.keep (hdr.block g hog)).keep (hW.block g (Nat.lt_of_lt_of_le hog hdr.size) (fun e=>HG.out.2.2.2 e));obtain⟨c0,c1,c2,c3,c4,c5,c6⟩:=ho2.cells
           exact⟨⟨c0,c1,c2,c3,c4,c5⟩,ho2⟩)
          have c5:=(K.out _ (Za.refl _ _)).1;have HT:=hid (show Za (fun k=>k=c∨k=g) w wr.drew/\Za (fun k=>k=c∨k=g) w4 wr.drew from⟨ht.trans (Za.of_below hdr),ht4.trans (Za.of_below hdr)⟩);have HER2:=hid hER;have HCL:=hid (ZjX Sj ⟨0,3,y,f,0⟩ LL);have HIDN:=hid (Zfc Sj ⟨0,3,y,f,0⟩ LL);have HCS:=hid hCS;clear HJ hv hor ht ht4 htm hCj hRj hDOK hog hdr hER HER hCS;generalize putDoc Sj ⟨0,3,y,f,0⟩ LL=PD at HPUT HER2 HCL HIDN;obtain⟨⟨pa,pb⟩,PS⟩:=PD;simp only at HPUT HER2 HCL HIDN;obtain⟨k0,k1,k2,k3,k4,k5⟩:=c5;have FZ:=hid (show ∀W,Za (fun k=>k=c) wr.drew W->W.frozen? ⟨g,1,none⟩=false from fun W hW=>by simp[World.frozen?,show W.heap[g]?=_ from(K.out W hW).2]);go_wp2_with fail
          go_region_with (go_at_call 102;refine Calls.mono HPUT.out ?_;rintro e w5 ⟨rfl,h5,t5⟩;have fz:=FZ.out _ t5;obtain⟨z0,z1,z2,z3,z4,z5⟩:=(K.out _ t5).1)
          all_goals
           obtain⟨w6,hw6⟩:∃w6,w6=w5.setCell ⟨g,1,none⟩ (.int .i64 pa):=⟨_,rfl⟩
           have h6:Ze w6 X v m c PS:=by rw[hw6];exact h5.boxSet HG.out.1 HG.out.2 1 _
           have o6:ZmD w6 117 g v pa 3 y f bj:=by rw[hw6];exact(K.out _ t5).2.idSet pa
           have t6:Za (fun k=>k=c∨k=g) wr.drew w6:=by
            rw[hw6];exact(t5.mono fun k hk=>.inl hk).trans ⟨rfl,rfl,rfl,by simp,fun k hk hn=>heap_setCell_other _ _ _ _ (fun e=>hn (.inr e))⟩
           have HT6:=hid (HT.out.1.trans t6);have HRW6:=hid (HROW.out w6 (HT.out.2.trans t6));have H6:=hid (And.intro h6 o6);clear h5 t5 h6 o6 t6 z0 z1 z2 z3 z4 z5 fz k0 k1 k2 k3 k4 k5 K FZ HPUT HT HROW;by_cases hb:pb=0
           · have hR:=HER2.out.trans (if_pos hb);subst hb;have HPO:=hid (ZjW (cap:=k') H6.out.1 HG.out.2.2.2 H6.out.2 HYY.out.1 HIDN.out HRW6.out (by omega) (by have:=HCL.out;have:=HCS.out;omega));have HRR:=hid hR;clear hR HER2 HCL HIDN HCS HRW6;generalize entPut PS y 3 pa (jLines PS y LL)=EP at HPO HRR;obtain⟨ES,ei,ee⟩:=EP;simp only at HPO HRR;go_wp2_with fail;rw[<-hw6];clear hw6;refine HPO.out.mono ?_;rintro e w7⟨rfl,h7,t7⟩
             have HE:=hid (show Zfd w w7 X v m c g y f R (.returned (.int .i64 ee))from by
              have ht7:Za (fun k=>k=c∨k=g) w w7:=HT6.out.trans (t7.mono fun k hk=>.inl hk);rw[HRR.out];by_cases hee:ee=0
              · rw[if_pos hee];subst hee;exact⟨rfl,h7,fun _=>H6.out.2.keep (t7.block g H6.out.2.lt (fun e=>HG.out.2.2.2 e)),ht7⟩
              · rw[if_neg hee]
                exact⟨rfl,h7,fun h=>absurd h hee,ht7⟩)
             clear h7 t7 HPO HRR HT6 H6;go_wp2_with fail;go_ret;exact HE.out
           · have q1:(pb != 0)=true:=by simp[hb]
             have hR:=HER2.out.trans (if_neg hb)
             have HE:=hid (show Zfd w w6 X v m c g y f R (.returned (.int .i64 pb))from by
              rw[hR]
              exact⟨rfl,H6.out.1,fun h=>absurd h hb,HT6.out⟩)
             clear hR HER2 HCL HIDN HCS HRW6 HT6 H6 hb;go_wp2_with fail;rw[<-hw6];go_ret;exact HE.out
     · have k1:(le != 0)=true:=by simp[hle]
       have hR:=E3.out hle
       have HE:=hid (show Zfd w w4 X v m c g y f R (.returned (.int .i64 le))from by
        rw[hR]
        exact⟨rfl,h4,fun h=>absurd h hle,ht4⟩)
       clear hR h4 o4 t4 ht4 E3 E4 HEL HO3 hle;go_wp2_with fail;go_ret;exact HE.out
   · have hER:=E.out.2.1 (by first|rfl|trivial) (by decide)
     have HE:=hid (show Zfd w w3 X v m c g y f R (.returned (.int .i64 1))from by
      rw[hER]
      exact⟨rfl,(K.out w3 H3.out).2.2.1,fun h=>absurd (show(1:Int)=0 from h) (by decide),(K.out w3 H3.out).2.2.2⟩)
     clear hER E K HP6 H3;go_wp2_with fail;go_ret;exact HE.out
 · have k1:(yc != 0)=true:=by simp[h0]
   have hER:=E.out.1 h0
   have HE:=hid (show Zfd w w2 X v m c g y f R (.returned (.int .i64 yc))from by
    rw[hER]
    exact⟨rfl,(K.out w2 H2.out).2.2.1,fun h=>absurd h h0,(K.out w2 H2.out).2.2.2⟩)
   clear hER E K HP6 H2 h0;go_wp2_with fail;go_ret;exact HE.out
end
theorem ZlN{S:VS}{y f:Int}{l:List Ln}:(expNew S y f l).1.2.2≠0->(expNew S y f l).1.1=0/\(expNew S y f l).1.2.1=false:=fun h=>by
 unfold expNew at h ⊢
 split
 · split
   · split
     · rename_i a b d
       rw[if_pos a,if_pos b,if_pos d]at h
       unfold Zbe at h ⊢
       split
       · rename_i p
         rw[if_pos p]at h;split
         · rename_i q
           rw[if_pos q]at h;exact absurd rfl h
         · exact⟨rfl,rfl⟩
       · rename_i p
         rw[if_neg p]at h;exact Ze5 h
     · exact⟨rfl,rfl⟩
   · exact⟨rfl,rfl⟩
 · exact⟨rfl,rfl⟩
section
variable{w w':World}{X X':Nat->Prop}{v m c g:Nat}{S:VS}
theorem ZdQ(h:Ze w X v m c S){y f:Int}(hy:ZS y)(hf:ZS f){A:Option Addr}{n cap:Nat}{l:List Ln}(hl:∀W,Za (fun k=>k=c) w W->RL W W.heap.size A n l)(hcap:n<=cap)(hn:n<=maxLen)(hC:S.C.length<=90000) :
 Calls prog 23 #[.pointer (some ⟨v,0,none⟩),.int .i64 y,.int .i64 f,.slice A n cap] w fun e w'=>e=.returned (.tuple #[.int .i64 (expNew S y f l).1.1,.bool (expNew S y f l).1.2.1,.int .i64 (expNew S y f l).1.2.2])/\Ze w' X v m c (expNew S y f l).2/\Za (fun k=>k=c) w w':=by
 have hbad:(expNew S y f l).1.2.2≠0->(expNew S y f l).1.1=0/\(expNew S y f l).1.2.1=false:=ZlN;obtain⟨w1,hw1⟩:∃w1,w1=w.alloc (.cells #[.pointer (some ⟨v,0,none⟩),.int .i64 0,.int .i64 3,.int .i64 y,.int .i64 f,.int .i64 0,.bool false] 117 (0,0)):=⟨_,rfl⟩
 have hb1:Below w.heap.size w w1:=by rw[hw1];exact(Below.refl _ _).alloc (Nat.le_refl _) _
 have ho1:Zan w1 117 w.heap.size v 3 y f false:=by rw[hw1];exact heap_alloc_new w _
 have hv1:Ze w1 (fun k=>X k∨k=w.heap.size) v m c S:=by rw[hw1];exact h.box _
 have htn:∀W,Za (fun k=>k=c∨k=w.heap.size) w1 W->Za (fun k=>k=c) w W:=fun W hW=>by rw[hw1]at hW;exact ZiW hW
 have hlt:=(And.intro (h.lt v h.xv) (And.intro (h.lt m h.xm) (h.lt c h.xc)))
 have HP:=hid (Zit hv1 (.inr rfl) (by omega) ho1 hy hf (fun d st hd=>h.docOk hd) (fun W hW=>hl W (htn W hW)) hcap hn hC);have HX:=hid (And.intro h.xv (And.intro h.xm h.xc));have HTN:=hid htn;have HBAD:=hid hbad;clear h hl hC hb1 ho1 hv1 htn hbad hlt;generalize expNew S y f l=R at HP HBAD ⊢;go_enter func23,ntmps23;go_wp2_with fail;rw[<-hw1];clear hw1;refine HP.out.mono ?_;rintro e w2⟨rfl,h2,ho2,t2⟩;have HE:=hid (show ∀W,Below w2.heap.size w2 W->Ze W X v m c R.2/\Za (fun k=>k=c) w W from fun W hW=>⟨(h2.below hW).less (fun k hk=>.inl hk) HX.out.1 HX.out.2.1 HX.out.2.2,(HTN.out w2 t2).trans (Za.of_below hW)⟩);obtain⟨⟨ra,rb,re⟩,RS⟩:=R;simp only at ho2 HE HBAD ⊢;clear h2 t2 HP HTN HX;by_cases h0:re=0
 · subst h0;have ho:=ho2 (by first|rfl|trivial);obtain⟨c0,c1,c2,c3,c4,c5,c6⟩:=ho.cells;have hd:=(Below.refl w2.heap.size w2).drew;have d1:w2.drew.cell? ⟨w.heap.size,1,none⟩=some (.int .i64 ra):=(hd.cell (p:=⟨w.heap.size,1,none⟩) ho.lt).trans c1;have d6:w2.drew.cell? ⟨w.heap.size,6,none⟩=some (.bool rb):=(hd.cell (p:=⟨w.heap.size,6,none⟩) ho.lt).trans c6;have HE2:=hid (And.intro (HE.out w2 (Below.refl _ _)) (HE.out w2.drew hd));clear HBAD HE c0 c1 c2 c3 c4 c5 c6 hd ho ho2;go_wp2_with fail;have c5:w2.drew.cell? ⟨w.heap.size,1,none⟩=some (.int .i64 ra)/\w2.drew.cell? ⟨w.heap.size,6,none⟩=some (.bool rb):=⟨d1,d6⟩
   go_region_held3 (fun W=>W.cell? ⟨w.heap.size,1,none⟩=some (.int .i64 ra)/\W.cell? ⟨w.heap.size,6,none⟩=some (.bool rb))
    (first|with_reducible exact c5|exact c5)
    (first|fail)
   clear c5 d6 d1;go_wp2_with fail
   go_ret3
   exact⟨rfl,HE2.out.2⟩
 · have k1:(re != 0)=true:=by simp[h0]
   obtain⟨rfl,rfl⟩:=HBAD.out h0;have HE2:=hid (HE.out w2 (Below.refl _ _));clear HBAD HE ho2 h0;go_wp2_with fail
   go_ret3
   exact⟨rfl,HE2.out⟩
end
end Go.Proofs.YtiknkbpojmgbhaaGreat
