/- YrA, YrB. Conditions: in each theorem. -/
import Derived.Test.YtiknkbpojmgbhaaGreatViewC
import Derived.Test.YtiknkbpojmgbhaaGreatSeqP
import Derived.Test.YtiknkbpojmgbhaaGreatManS
import Derived.Deep.RegionHeld3
set_option maxHeartbeats 3200000
set_option maxRecDepth 100000
set_option linter.unusedVariables false
open Go.Proofs.Tryz
open Go.Lib (hid)
namespace Go.Proofs.YtiknkbpojmgbhaaGreat
open Go.RowKit Go.Maps
def stV(o:Option (List Int)):Int:=if seqV o=1∨seqV o=2 then seqV o else 0
theorem ZpK(o:Option (List Int)):stV (some (o.getD []))=stV o:=by
 cases o with
 | none=>rfl
 | some b=>rfl
theorem ZfK(o:Option (List Int)):stV o=0∨stV o=1∨stV o=2:=by
 unfold stV;split
 · rename_i h
   exact .inr h
 · exact .inl rfl
def ZkM(n:Int):Bool:=decide (2000<=n)&&decide (n<=2099)
def Zoz(s:Int):Int:=if s=1 then 0 else if s=2 then 13 else 7
abbrev ZbO(n:Int):Txt:=tx (Zi 89 [n])
theorem ZkN(n:Int):(Zi 89 [n]).length=5:=by unfold Zi;rw[Zt];rfl
def ZdH(o:Option (List Int))(n:Int):Int:=if ZkM n=true then(if stV o=0 then 0 else 8)else 1
def VS.open_(S:VS)(n:Int):VS:=if ZdH (S.now (ZbO n)) n=0 then S.put (ZbO n) (Zj 8 [1])else S
theorem ZmA(a:Int)(w:World):Calls prog 89 #[.int .i64 a] w fun e w'=>e=.returned (.bool (ZkM a))/\w=w':=by
 unfold ZkM;by_cases h:2000<=a
 · go_enter func89,ntmps89;go_wp2;go_ret;simp;omega
 · go_enter func89,ntmps89;go_wp2;go_ret;simp;omega
theorem ZkO{w:World}{A:Option Addr}{n k B:Nat}{b:List Int}(hr:RB w B A n b)(hB:B<=w.heap.size)(hk:n<=k)(hn:n<=maxLen) :
 Calls prog 176 #[.slice A n k] w fun e w'=>e=.returned (.int .i64 (stV (some b)))/\Below w.heap.size w w':=by
 have HU:=hid (Zcd A n k B b 1 w hr hB hk hn (by omega) (by omega));unfold stV seqV;clear hr;rcases unpack_one b with ⟨x,hx⟩|⟨en,hen,hx⟩
 · have hv:(match some b with|none=>0|some b=>if(unpackR b 1).2=0 then(unpackR b 1).1[0]?.getD 0 else 0:Int)=x:=by simp[hx]
   rw[hx]at HU;have hv2:seqV (some b)=x:=by simp[seqV,hx]
   have HR:=hid (show(if seqV (some b)=1∨seqV (some b)=2 then seqV (some b)else 0)=if x=1∨x=2 then x else 0 by rw[hv2]);have hgoal:=HR.out;unfold seqV at hgoal;rw[hgoal];clear hv hv2 hgoal HR hx;by_cases h1:x=1
   · subst h1;go_enter func176,ntmps176;go_wp2_with fail;refine HU.out.mono ?_;rintro e w3⟨A3,k3,c3,rfl,hk3,_,hr3,hb3⟩;obtain rfl:1=k3:=hr3.len;obtain⟨bb,o,rfl,hbb,hc⟩:=hr3.2.2 (by simp);have c0:=hc 0 (by simp);have HE:=hid hb3;simp only[Nat.add_zero,List.getElem?_cons_zero,Option.getD_some]at c0;clear HU hr3 hb3 hc;go_wp2_with fail;go_ret;exact⟨rfl,HE.out⟩
   · by_cases h2:x=2
     · subst h2;go_enter func176,ntmps176;go_wp2_with fail;refine HU.out.mono ?_;rintro e w3⟨A3,k3,c3,rfl,hk3,_,hr3,hb3⟩;obtain rfl:1=k3:=hr3.len;obtain⟨bb,o,rfl,hbb,hc⟩:=hr3.2.2 (by simp);have c0:=hc 0 (by simp);have HE:=hid hb3;simp only[Nat.add_zero,List.getElem?_cons_zero,Option.getD_some]at c0;clear HU hr3 hb3 hc;go_wp2_with fail;go_ret;exact⟨rfl,HE.out⟩
     · rw[if_neg (by omega)];have e1:(x == 1)=false:=by simp;omega
       have e2:(x == 2)=false:=by simp;omega
       go_enter func176,ntmps176;go_wp2_with fail;refine HU.out.mono ?_;rintro e w3⟨A3,k3,c3,rfl,hk3,_,hr3,hb3⟩;obtain rfl:1=k3:=hr3.len;obtain⟨bb,o,rfl,hbb,hc⟩:=hr3.2.2 (by simp);have c0:=hc 0 (by simp);have HE:=hid hb3;simp only[Nat.add_zero,List.getElem?_cons_zero,Option.getD_some]at c0;clear HU hr3 hb3 hc h1 h2;go_wp2_with fail;go_ret;exact⟨rfl,HE.out⟩
 · have hv2:seqV (some b)=0:=by simp[seqV,hx,hen]
   have HR:=(show(if seqV (some b)=1∨seqV (some b)=2 then seqV (some b)else 0)=0 by rw[hv2];rfl)
   unfold seqV at HR;rw[HR];rw[hx]at HU;have he2:(en != 0)=true:=by simp[hen]
   clear HR hv2 hx hen;go_enter func176,ntmps176;go_wp2_with fail;refine HU.out.mono ?_;rintro e w3⟨A3,k3,c3,rfl,hk3,_,hr3,hb3⟩;have HE:=hid hb3;clear HU hr3 hb3;go_wp2_with fail;go_ret;exact⟨rfl,HE.out⟩
section
variable{w w':World}{X:Nat->Prop}{v m c:Nat}{S:VS}
theorem Zlw(p:Value)(n:Int)(w:World)(hn : -9223372036854775808<=n/\n<=9223372036854775807) :
 Calls prog 175 #[.agg #[p,.int .i64 n]] w fun e w'=>∃A c,e=.returned (.slice A 5 c)/\5<=c/\RB w' w'.heap.size A 5 (Zi 89 [n])/\Below w.heap.size w w':=by
 have hb:Below w.heap.size w (((w.alloc (.cells #[p,.int .i64 n] 163)).alloc (.cells #[.int .i64 n] 3))):=((Below.refl _ _).alloc (Nat.le_refl _) _).alloc (by simp) _;have hz:(w.alloc (.cells #[p,.int .i64 n] 163)).heap.size=w.heap.size+1:=by simp
 have hl:=ZhJ (w.alloc (.cells #[p,.int .i64 n] 163)) 3 [n] #[.int .i64 n] rfl (fun x hx=>by obtain rfl:=List.mem_singleton.1 hx;exact hn);rw[hz]at hl;have HK:=hid (ZeG 89 _ 1 1 _ [n] _ (by omega) hl (by simp) (Nat.le_refl _) (by decide));have HB:=hid hb;clear hl hb;go_enter func175,ntmps175;go_wp2_with fail;refine HK.out.mono ?_;rintro e w2⟨u,rfl,ho⟩;obtain⟨A,c,rfl,h1,h2⟩:=ho.read (Zk (by omega) _);have HE:=hid (And.intro h1 (And.intro h2 (HB.out.trans (ho.2.mono HB.out.size))));clear HK ho h1 h2 hz;go_wp2;go_ret;have e5:=ZkN n;obtain⟨h1,h2,h3⟩:=HE.out;rw[e5]at h1 h2;exact⟨A,c,rfl,h1,h2,h3⟩
theorem ZgR(h:Ze w X v m c S)(n:Int)(hn : -9223372036854775808<=n/\n<=9223372036854775807) :
 Calls prog 90 #[.agg #[.pointer (some ⟨v,0,none⟩),.int .i64 n]] w fun e w'=>e=.returned (.int .i64 (stV (S.now (ZbO n))))/\Below w.heap.size w w':=by
 obtain⟨w1,hw1⟩:∃w1,w1=w.alloc (.cells #[.pointer (some ⟨v,0,none⟩),.int .i64 n] 163):=⟨_,rfl⟩
 have hb1:Below w.heap.size w w1:=by rw[hw1];exact(Below.refl _ _).alloc (Nat.le_refl _) _
 have c0:w1.drew.cell? ⟨w.heap.size,0,none⟩=some (.pointer (some ⟨v,0,none⟩)):=by rw[hw1];exact cell_of_row _ _ 0 _ _ (0,0) (heap_alloc_new w _)
 have c1:w1.drew.cell? ⟨w.heap.size,1,none⟩=some (.int .i64 n):=by rw[hw1];exact cell_of_row _ _ 1 _ _ (0,0) (heap_alloc_new w _)
 have hlt:w.heap.size<w1.drew.heap.size:=by rw[hw1];show w.heap.size<(w.alloc _).heap.size;simp
 have hT:=hb1.drew;have h1:Ze w1.drew X v m c S:=h.below hb1.drew;have C5:Hid (∀W,Below w1.drew.heap.size w1.drew W->W.cell? ⟨w.heap.size,0,none⟩=some (.pointer (some ⟨v,0,none⟩))/\W.cell? ⟨w.heap.size,1,none⟩=some (.int .i64 n)):=hid fun W hW=>⟨(hW.cell (p:=⟨w.heap.size,0,none⟩) hlt).trans c0,(hW.cell (p:=⟨w.heap.size,1,none⟩) hlt).trans c1⟩
 have c5:=C5.out _ (Below.refl _ _);rw[<-ZpK];clear c0 c1 hb1 h;go_enter func90,ntmps90;go_wp2_with fail;rw[<-hw1];clear hw1
 go_region_held3 (fun W=>W.cell? ⟨w.heap.size,0,none⟩=some (.pointer (some ⟨v,0,none⟩))/\W.cell? ⟨w.heap.size,1,none⟩=some (.int .i64 n))
  (first|with_reducible exact c5|exact c5)
  (first
   | (go_at_call 175;refine Calls.mono (Zlw _ n _ hn) ?_;rintro e wk ⟨A,k,rfl,hk,hr,hbk⟩;have hg:=ZdE (k:=k) (h1.below hbk) hr (Nat.le_refl _) (by decide);have hT:=hT.trans (hbk.mono hT.size);have c5:=C5.out _ hbk;have hP:=hbk;clear hr hbk)
   | (go_at_call 109;refine Calls.mono hg ?_;rintro e wg ⟨u,rfl,hs,hbg⟩;have hT:=hT.trans (hbg.mono hT.size);have c5:=C5.out _ (hP.trans (hbg.mono hP.size));clear hg hbg))
 obtain⟨Au,nu,ku,rfl,hu1,hu2,hu3,_⟩:=hs;have HT:=hid hT;have HU:=hid (ZkO hu3 (Nat.le_refl _) hu1 (Nat.le_trans hu2 (by unfold maxLen;omega)));clear hT c5 C5 h1 hP hu1 hu2 hu3;go_wp2_with fail;refine HU.out.mono ?_;rintro e w3⟨rfl,hb3⟩;have HE:=hid (HT.out.trans (hb3.mono HT.out.size));clear hb3 HU HT;go_wp2_with fail;go_ret;exact⟨rfl,HE.out⟩
theorem ZmB(h:Ze w X v m c S)(n:Int)(hn : -9223372036854775808<=n/\n<=9223372036854775807) :
 Calls prog 186 #[.pointer (some ⟨v,0,none⟩),.int .i64 n] w fun e w'=>e=.returned (.int .i64 (stV (S.now (ZbO n))))/\Below w.heap.size w w':=by
 have HL:=hid (ZgR h n hn);generalize stV (S.now (ZbO n))=k at HL ⊢;clear h;go_enter func186,ntmps186;go_wp2_with fail;refine HL.out.mono ?_;rintro e w2⟨rfl,hb2⟩;have HE:=hid hb2;clear hb2 HL;go_wp2_with fail;go_ret;exact⟨rfl,HE.out⟩
theorem Zd7(h:Ze w X v m c S)(n:Int)(hn : -9223372036854775808<=n/\n<=9223372036854775807) :
 Calls prog 99 #[.pointer (some ⟨v,0,none⟩),.int .i64 n] w fun e w'=>e=.returned (.int .i64 (Zoz (stV (S.now (ZbO n)))))/\Below w.heap.size w w':=by
 have HL:=hid (ZmB h n hn);have h3:=ZfK (S.now (ZbO n));generalize stV (S.now (ZbO n))=k at HL h3 ⊢;clear h
 rcases h3 with rfl|rfl|rfl <;> (
  go_enter func99,ntmps99;go_wp2_with fail;refine HL.out.mono ?_;rintro e w2⟨rfl,hb2⟩;have HE:=hid hb2;clear hb2 HL;go_wp2_with fail;go_ret
  exact⟨rfl,HE.out⟩)
end
theorem ZfL(n x:Int):putE (Zi 89 [n]) (Zj 8 [x])=0:=by
 have h8:(Zj 8 [x]).length=8:=by rw[Zh];rfl
 unfold putE;rw[ZkN,h8];exact if_neg (by rintro(a|a|a) <;> omega)
section
variable{w w':World}{X:Nat->Prop}{v m c:Nat}{S:VS}
theorem ZpL(h:Ze w X v m c S)(n s:Int)(hn : -9223372036854775808<=n/\n<=9223372036854775807)(hs : -9223372036854775808<=s/\s<=9223372036854775807)(hC:S.C.length<maxLen) :
 Calls prog 91 #[.agg #[.pointer (some ⟨v,0,none⟩),.int .i64 n],.int .i64 s] w fun e w'=>e=.returned (.int .i64 0)/\Ze w' X v m c (S.put (ZbO n) (Zj 8 [s]))/\Za (fun k=>k=c) w w':=by
 obtain⟨w1,hw1⟩:∃w1,w1=w.alloc (.cells #[.pointer (some ⟨v,0,none⟩),.int .i64 n] 163):=⟨_,rfl⟩
 have hb1:Below w.heap.size w w1:=by rw[hw1];exact(Below.refl _ _).alloc (Nat.le_refl _) _
 have c0:w1.cell? ⟨w.heap.size,0,none⟩=some (.pointer (some ⟨v,0,none⟩)):=by rw[hw1];exact cell_of_row _ _ 0 _ _ (0,0) (heap_alloc_new w _)
 have c1:w1.cell? ⟨w.heap.size,1,none⟩=some (.int .i64 n):=by rw[hw1];exact cell_of_row _ _ 1 _ _ (0,0) (heap_alloc_new w _)
 have hlt:w.heap.size<w1.heap.size:=by rw[hw1];simp
 have C5:Hid (∀W,Below w1.heap.size w1 W->W.cell? ⟨w.heap.size,0,none⟩=some (.pointer (some ⟨v,0,none⟩))/\W.cell? ⟨w.heap.size,1,none⟩=some (.int .i64 n)):=hid fun W hW=>⟨(hW.cell (p:=⟨w.heap.size,0,none⟩) hlt).trans c0,(hW.cell (p:=⟨w.heap.size,1,none⟩) hlt).trans c1⟩
 have HV:=hid (h.below hb1);have hcw:w.heap.size≠c:=Nat.ne_of_gt (h.lt c h.xc);have HR:Hid (∀W,Below (w1.drew.alloc (.cells #[.int .i64 s] 3 (0,0))).heap.size (w1.drew.alloc (.cells #[.int .i64 s] 3 (0,0))) W->W.heap[w1.heap.size]?=some (.cells #[.int .i64 s] 3 (0,0))):=hid fun W hW=>(hW.block _ (by show w1.heap.size<(w1.drew.alloc _).heap.size;simp)).trans (heap_alloc_new w1.drew _)
 have hP:Below w1.heap.size w1 w1.drew:=(Below.refl _ _).drew;have c5:=C5.out _ hP;have hv:Ze w1.drew X v m c S:=HV.out.below hP;have HB:=hid hb1;clear c0 c1 h hb1;go_enter func91,ntmps91;go_wp2_with fail;rw[<-hw1];clear hw1 HV
 go_region_held3 (fun W=>W.cell? ⟨w.heap.size,0,none⟩=some (.pointer (some ⟨v,0,none⟩))/\W.cell? ⟨w.heap.size,1,none⟩=some (.int .i64 n))
  (first|with_reducible exact c5|exact c5|exact C5.out _ (hP.alloc hP.size _))
  (first
   | (go_at_call 175;refine Calls.mono (Zlw _ n _ hn) ?_;rintro e wk ⟨A,j,rfl,hj,hr,hbk⟩;(first|have hv:=hv.below hbk|have hv:=(hv.alloc _).below hbk);(first|have hP:=hP.trans (hbk.mono hP.size)|have hP:=(hP.alloc hP.size _).trans (hbk.mono (hP.alloc hP.size _).size));have c5:=C5.out _ hP;have hpB:=Za6 s (wk.alloc (.cells #[.int .i64 s] 3 (0,0))) wk.heap.size 3 (heap_alloc_new _ _) hs;(first|have hpC:=Za6 s wk w1.heap.size 3 (HR.out _ hbk) hs|skip))
   | (go_at_call 177;(first|with_reducible refine Calls.mono hpB ?_|with_reducible refine Calls.mono hpC ?_);rintro e wp ⟨A2,j2,rfl,hj2,hr2,hbp⟩;(first|(have hr:=(hr.below hbp).more hbp.size;have hv:=hv.below hbp;have hP:=hP.trans (hbp.mono hP.size))|(have hba:=(Below.refl wk.heap.size wk).alloc (Nat.le_refl _) (.cells #[.int .i64 s] 3 (0,0));have hr:=(hr.below hba).more hba.size;have hr:=(hr.below hbp).more hbp.size;have hv:=(hv.alloc (.cells #[.int .i64 s] 3 (0,0))).below hbp;have hP:=(hP.alloc hP.size (.cells #[.int .i64 s] 3 (0,0))).trans (hbp.mono (hP.alloc hP.size (.cells #[.int .i64 s] 3 (0,0))).size)));have c5:=C5.out _ hP;have hput:=ZcU (k:=j) (k':=j2) hv hr (Nat.le_refl _) (by decide) hr2 (Nat.le_refl _) (by decide) hC;rw[ZfL]at hput)
   | (go_at_call 96;refine Calls.mono hput ?_;rintro e wq ⟨rfl,hvq,htq⟩;have c5:wq.cell? ⟨w.heap.size,0,none⟩=some (.pointer (some ⟨v,0,none⟩))/\wq.cell? ⟨w.heap.size,1,none⟩=some (.int .i64 n):=⟨(World.cell?_of_block (a:=⟨w.heap.size,0,none⟩) (htq.block w.heap.size (Nat.lt_of_lt_of_le hlt hP.size) hcw)).trans c5.1,(World.cell?_of_block (a:=⟨w.heap.size,1,none⟩) (htq.block w.heap.size (Nat.lt_of_lt_of_le hlt hP.size) hcw)).trans c5.2⟩))
 all_goals have eS:S.putR (Zi 89 [n]) (Zj 8 [s])=S.put (ZbO n) (Zj 8 [s]):=by unfold VS.putR;rw[ZfL];rfl
 all_goals rw[eS]at hvq
 all_goals have HE:=hid (And.intro hvq ((Za.of_below (HB.out.trans (hP.mono HB.out.size))).trans htq))
 all_goals clear hvq htq hput hr hr2 hbk hbp hv hP c5 C5 HR HB hpB
 all_goals try clear hba
 all_goals try clear hpC
 all_goals go_wp2_with fail
 all_goals go_ret
 all_goals exact⟨rfl,HE.out⟩
theorem Zot(h:Ze w X v m c S)(n:Int)(hn : -9223372036854775808<=n/\n<=9223372036854775807)(hC:S.C.length<maxLen) :
 Calls prog 43 #[.pointer (some ⟨v,0,none⟩),.int .i64 n] w fun e w'=>e=.returned (.int .i64 (ZdH (S.now (ZbO n)) n))/\Ze w' X v m c (S.open_ n)/\Za (fun k=>k=c) w w':=by
 have HR:=hid (ZmA n w);have HSAME:=hid (show ∀W,Below w.heap.size w W->Ze W X v m c S/\Za (fun k=>k=c) w W from fun W hb=>⟨h.below hb,Za.of_below hb⟩)
 cases hy:ZkM n with
 | false=>
  have e1:ZdH (S.now (ZbO n)) n=1:=by unfold ZdH;rw[hy];rfl
  have e2:S.open_ n=S:=by unfold VS.open_;rw[e1];rfl
  rw[hy]at HR;rw[e1,e2];clear h e1 e2 hy;go_enter func43,ntmps43;go_wp2_with fail;refine HR.out.mono ?_;rintro e w1⟨rfl,rfl⟩;go_wp2_with fail;go_ret;exact⟨rfl,HSAME.out _ (Below.refl _ _)⟩
 | true=>
 rw[hy]at HR;obtain⟨w1,hw1⟩:∃w1,w1=w.alloc (.cells #[.pointer (some ⟨v,0,none⟩),.int .i64 n] 163):=⟨_,rfl⟩
 have hb1:Below w.heap.size w w1:=by rw[hw1];exact(Below.refl _ _).alloc (Nat.le_refl _) _
 have hz:w1.heap.size=w.heap.size+1:=by rw[hw1];simp
 have c0:∀W,Below w1.heap.size w1 W->W.cell? ⟨w.heap.size,0,none⟩=some (.pointer (some ⟨v,0,none⟩))/\W.cell? ⟨w.heap.size,1,none⟩=some (.int .i64 n):=fun W hW=>⟨(hW.cell (p:=⟨w.heap.size,0,none⟩) (by show w.heap.size<w1.heap.size;omega)).trans (by rw[hw1];exact cell_of_row _ _ 0 _ _ (0,0) (heap_alloc_new w _)),(hW.cell (p:=⟨w.heap.size,1,none⟩) (by show w.heap.size<w1.heap.size;omega)).trans (by rw[hw1];exact cell_of_row _ _ 1 _ _ (0,0) (heap_alloc_new w _))⟩
 have HC0:=hid c0;obtain⟨d0,d1⟩:=c0 w1 (Below.refl _ _);have HS:=hid (ZgR (h.below hb1) n hn);have h3:=ZfK (S.now (ZbO n));have HB1:=hid hb1;have HSET:=hid (show ∀W,Below w.heap.size w W->Calls prog 91 #[.agg #[.pointer (some ⟨v,0,none⟩),.int .i64 n],.int .i64 1] W fun e w'=>e=.returned (.int .i64 0)/\Ze w' X v m c (S.put (ZbO n) (Zj 8 [1]))/\Za (fun k=>k=c) W w' from fun W hb=>ZpL (h.below hb) n 1 hn (by omega) hC);unfold ZdH VS.open_ ZdH;rw[hy,if_pos rfl];generalize stV (S.now (ZbO n))=k at HS h3 ⊢;by_cases hk:k=0
 · subst hk;rw[if_pos rfl,if_pos rfl];clear h hb1 hz hy h3 c0;go_enter func43,ntmps43;go_wp2_with fail;refine HR.out.mono ?_;rintro e w2⟨rfl,rfl⟩;go_wp2_with fail;rw[<-hw1];go_wp2_with fail;refine HS.out.mono ?_;rintro e w3⟨rfl,hb3⟩;obtain⟨q0,q1⟩:=HC0.out _ hb3;have hb03:=HB1.out.trans (hb3.mono HB1.out.size);have HQ:=hid (HSET.out _ hb03);have HB3:=hid hb03;clear hb3 hb03 hw1 d0 d1 HS HSET;go_wp2_with fail;refine HQ.out.mono ?_;rintro e w4⟨rfl,hv4,ht4⟩;have HE:=hid (And.intro hv4 ((Za.of_below HB3.out).trans ht4));clear hv4 ht4 HQ q0 q1;go_wp2_with fail;go_ret;exact⟨rfl,HE.out⟩
 · rw[if_neg hk,if_neg (by decide)];have hk2:(k != 0)=true:=by simp[hk]
   clear h hb1 hz hy h3 c0 hk;go_enter func43,ntmps43;go_wp2_with fail;refine HR.out.mono ?_;rintro e w2⟨rfl,rfl⟩;go_wp2_with fail;rw[<-hw1];go_wp2_with fail;refine HS.out.mono ?_;rintro e w3⟨rfl,hb3⟩;have HE:=hid (HB1.out.trans (hb3.mono HB1.out.size));clear hb3 hw1 d0 d1 HS HSET;go_wp2_with fail;go_ret;exact⟨rfl,HSAME.out _ HE.out⟩
end
end Go.Proofs.YtiknkbpojmgbhaaGreat
