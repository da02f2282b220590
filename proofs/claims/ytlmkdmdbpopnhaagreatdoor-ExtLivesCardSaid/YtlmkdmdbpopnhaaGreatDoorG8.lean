/- SecDev, RedoPA, RedoPB, RedoPC, RedoPD, ZgR. Conditions: in each theorem. -/
import Derived.Test.YtlmkdmdbpopnhaaGreatDoorG7
import Derived.Test.YtlmkdmdbpopnhaaGreatDoorG3
import Derived.Test.YtlmkdmdbpopnhaaGreatDoorG6
import Derived.Deep.RegionWith
import Derived.BigQuiet
import Derived.Deep.Cut
set_option maxHeartbeats 8000000
set_option maxRecDepth 100000
set_option linter.unusedVariables false
open Go.Proofs.Tryz
open Go.Lib (hid)
namespace Go.Proofs.YtlmkdmdbpopnhaaGreatDoor
open Go.RowKit
theorem ZhD{l:List Int}(hl:Ze l)(h:l.length=256):(l.take 4=Zr (Zdx (l.drop 4):Int) 4)↔numOf (l.take 4)=(Zdx (l.drop 4):Int):=by
 have hs:=ZfP (hl.drop 4);constructor
 · intro e;rw[e];exact Zcc (Zge (hl.drop 4)) (by omega) (by omega)
 · intro e;rw[<-e];exact(Zkx (hl.take 4) (by simp;omega)).symm
theorem ZhE(A:Option Addr)(n c:Nat)(w:World)(hm:n<=maxLen)(hn:n≠256) :
 Calls prog 87 #[.slice A n c] w fun e w'=>e=.returned (.tuple #[.int .i64 0,.int .i64 0,.slice none 0 0,.int .i64 4])/\Below w.heap.size w w':=by
 have k:((n:Int) != 256)=true:=by simp;omega
 unfold maxLen at hm;go_enter func87,ntmps87;go_wp2_with fail
 go_quiet (fail)
 go_wp2;exact bodyPost_ret (v:=.tuple #[.int .i64 0,.int .i64 0,.slice none 0 0,.int .i64 4]) (by simp[results,Tryz.results87,go_sem]) rfl ⟨rfl,Zeo (Below.refl w.heap.size w) _⟩
theorem ZlQ(A:Option Addr)(n c B:Nat)(l:List Int)(w:World)(hr:RB w B A n l)(hm:n<=maxLen)(ht:Tab w) :
 Calls prog 142 #[.slice A n c] w fun e w'=>∃A' c',e=.returned (.slice A' 4 c')/\RB w' w'.heap.size A' 4 (Zr (Zdx l:Int) 4)/\Below w.heap.size w w':=by
 refine(ZjW A n c B l w hr hm ht).mono ?_;rintro e w1⟨v1,rfl,hown1,hb1⟩;obtain⟨A1,c1,rfl,hc1,hr1⟩:=Zev hown1 (ZW _ _);exact⟨A1,c1,rfl,hr1,hb1⟩
theorem Zm7(A:Option Addr)(c B:Nat)(l:List Int)(w:World)(hr:RB w B A 256 l)(hB:B<=w.heap.size)(hc:256<=c)(ht:Tab w)(hg:1<w.heap.size) :
 Calls prog 87 #[.slice A 256 c] w fun e w'=>∃A' n' c',e=.returned (.tuple #[.int .i64 (Zd l).1,.int .i64 (Zd l).2.1,.slice A' n' c',.int .i64 (Zd l).2.2.2])/\n'<=c'/\RB w' w'.heap.size A' n' (Zd l).2.2.1/\Below w.heap.size w w':=by
 have hl:=hr.len;obtain⟨bd,hd⟩:∃bd,bd=decide (l.take 4=Zr (Zdx (l.drop 4):Int) 4):=⟨_,rfl⟩
 have HD:=hid hd;clear hd;obtain⟨b,off,rfl,hb,hcell⟩:=hr.at_ (by omega);have hr0:RB w B (some ⟨b,off,none⟩) 4 (l.take 4):=⟨by simp;omega,hr.bytes.take 4,fun _=>⟨b,off,rfl,hb,fun j hj=>by rw[hcell j (by omega),List.getElem?_take,if_pos hj]⟩⟩
 have hr4:RB w B (some ⟨b,off+4,none⟩) 252 (l.drop 4):=hr.cut hcell 4 (by omega) hb;have ht1:Tab w.drew:=ht;have hr0d:RB w.drew B (some ⟨b,off,none⟩) 4 (l.take 4):=hr0.drew;have hr4d:RB w.drew B (some ⟨b,off+4,none⟩) 252 (l.drop 4):=hr4.drew;have hBd:B<=w.drew.heap.size:=hB;have hBel:=hid ((Below.refl w.heap.size w).drew);have hr16:RB w B (some ⟨b,off+16,none⟩) 240 (l.drop 16):=hr.cut hcell 16 (by omega) hb;have HR:=hid hr;have HR16:=hid hr16;have HST:=hid (ZhD hr.bytes hl);clear hcell hr0 hr4 hr ht hr16;go_enter func87,ntmps87;go_wp2_with fail
 go_cut [21]from 10 (fun c wx=>c=.bool (!bd)/\Below w.heap.size w wx)
 case first=>
  have hc4:¬(c=4):=by omega
  go_region_with
   (first
    | (go_at_call 142;refine(ZlQ _ _ _ _ _ _ hr4d (by decide) ht1).mono ?_;rintro e w1 ⟨A1,c1,rfl,hr1,hb1⟩;have hr01:=hr0d.below (hb1.mono hBd);have hB1:=ZZf hBd hb1.size)
    | (go_at_call 141;refine(ZhB _ _ hr01 hr1 (by decide) (by decide) hB1 (ZZe _)).mono ?_;rw[<-HD.out];rintro e w2 ⟨rfl,hb2⟩;have hb02:=hid (hBel.out.trans (hb1.trans (hb2.mono hb1.size)));clear hb1 hb2 hr01 hr1))
  all_goals (go_wp2;go_meet;(case rel=>exact⟨rfl,hb02.out⟩))
 case rest=>
  obtain⟨rfl,hbw⟩:=hcut;have hrc:=HR.out.below (hbw.mono hB);have hr16c:=HR16.out.below (hbw.mono hB);have hBc:=ZZf hB hbw.size;have HBW:=hid hbw;clear hr0d hr4d ht1 hBd hBel hbw HR16;cases bd
  · have hne:Zd l=(0,0,[],4):=by
     unfold Zd;rw[if_neg];rintro⟨_,h,_⟩;exact absurd (HST.out.2 h) (of_decide_eq_false HD.out.symm)
    have HN:=hid hne;clear hne hrc hr16c;go_wp2;exact bodyPost_ret (v:=.tuple #[.int .i64 0,.int .i64 0,.slice none 0 0,.int .i64 4]) (by simp[results,Tryz.results87,go_sem]) rfl (by rw[HN.out];exact⟨none,0,0,rfl,ZZe _,RB.nil_,HBW.out⟩)
  · have hsum:=HST.out.1 (of_decide_eq_true HD.out.symm);have G2:=hid (ZgG (l:=l) 4 4 (by decide) (by omega));have G3:=hid (ZgG (l:=l) 8 8 (by decide) (by omega));obtain⟨sb,hsb⟩:∃sb,sb=Zey (numOf ((l.drop 4).take 4)) (numOf ((l.drop 8).take 8)):=⟨_,rfl⟩
    have HS:=hid hsb
    have hres:Zd l=if sb=true then(numOf ((l.drop 4).take 4),numOf ((l.drop 8).take 8),l.drop 16,0)else(0,0,[],4):=by
     unfold Zd;by_cases e:sb=true
     · rw[if_pos e,if_pos ⟨hl,hsum,by rw[<-hsb];exact e⟩]
     · rw[if_neg e,if_neg (fun h=>e (by rw[hsb];exact h.2.2))]
    clear hsb hsum HST HD HR;cases sb
    · have HN:=hid (hres.trans (if_neg (by decide)));clear hres;go_wp2_with fail;refine(Zb7 _ _ _ _ _ 4 4 _ hrc hc (by decide)).mono ?_;rw[show getR l 4 4=(numOf ((l.drop 4).take 4),0)from G2.out];rintro e w1⟨rfl,rfl⟩;go_wp2_with fail;refine(Zb7 _ _ _ _ _ 8 8 _ hrc hc (by decide)).mono ?_;rw[show getR l 8 8=(numOf ((l.drop 8).take 8),0)from G3.out];rintro e w1⟨rfl,rfl⟩;go_wp2_with fail;refine(Zau _ _ _).mono ?_;rw[<-HS.out];rintro e w1⟨rfl,rfl⟩;go_wp2;exact bodyPost_ret (v:=.tuple #[.int .i64 0,.int .i64 0,.slice none 0 0,.int .i64 4]) (by simp[results,Tryz.results87,go_sem]) rfl (by rw[HN.out];exact⟨none,0,0,rfl,ZZe _,RB.nil_,HBW.out⟩)
    · have HN:=hid (hres.trans (if_pos rfl));clear hres;go_wp2_with fail;refine(Zb7 _ _ _ _ _ 4 4 _ hrc hc (by decide)).mono ?_;rw[show getR l 4 4=(numOf ((l.drop 4).take 4),0)from G2.out];rintro e w1⟨rfl,rfl⟩;go_wp2_with fail;refine(Zb7 _ _ _ _ _ 8 8 _ hrc hc (by decide)).mono ?_;rw[show getR l 8 8=(numOf ((l.drop 8).take 8),0)from G3.out];rintro e w1⟨rfl,rfl⟩;go_wp2_with fail;refine(Zau _ _ _).mono ?_;rw[<-HS.out];rintro e w1⟨rfl,rfl⟩;go_wp2_with fail;refine(ZhC _ hr16c hBc (by decide)).mono ?_;rintro e w2⟨A2,c2,rfl,hc2,hr2,hb2⟩;go_wp2;exact bodyPost_ret (v:=.tuple #[.int .i64 (numOf ((l.drop 4).take 4)),.int .i64 (numOf ((l.drop 8).take 8)),.slice A2 240 c2,.int .i64 0]) (by simp[results,Tryz.results87,go_sem]) rfl (by rw[HN.out];exact⟨A2,240,c2,rfl,hc2,hr2,HBW.out.trans (hb2.mono HBW.out.size)⟩)
theorem Zep:Zm4:=by
 intro A n c B l w hr hB hc hn ht hg;by_cases h:n=256
 · subst h;exact Zm7 A c B l w hr hB hc ht hg
 · refine(ZhE A n c w (by unfold maxLen;omega) h).mono ?_
   have hne:Zd l=(0,0,[],4):=by
    unfold Zd;rw[if_neg];rintro⟨h',_⟩;exact h (by rw[<-hr.len];exact h')
   rw[hne];rintro e w'⟨rfl,hb⟩;exact⟨none,0,0,rfl,ZZe _,RB.nil_,hb⟩
def Zdk(S:DS):List (Int×List Int)->Int×DS
 | []=>S.fl
 | y::r=>ZaP (S.wr y.1 y.2) (fun S'=>Zdk S' r)
theorem ZgM(S:DS)(y:Int×List Int)(r:List (Int×List Int)):Zdk S (y::r)=ZaP (S.wr y.1 y.2) (fun S'=>Zdk S' r):=rfl
def Z4(D:World->(Nat->Prop)->Addr->DS->Prop)(w:World)(F:Nat->Prop)(p:Addr)(S:DS)(w':World):Prop:=∃F':Nat->Prop,D w' F' p S/\Zf F w w'/\∀k,F' k->F k∨w.heap.size<=k
section
variable{D:World->(Nat->Prop)->Addr->DS->Prop}{w w1 w2:World}{F F1:Nat->Prop}{p:Addr}{S S1 S2:DS}
theorem Zf.join(ht:Zf F w w1)(hF:∀k,F1 k->F k∨w.heap.size<=k)(h2:Zf F1 w1 w2):Zf F w w2:=
 ⟨h2.os.trans ht.os,h2.tape.trans ht.tape,h2.output.trans ht.output,ZZf ht.size h2.size,fun k hk hn=>(h2.block k (ZZd hk ht.size) (fun hf=>by
  rcases hF k hf with a|a
  · exact hn a
  · omega)).trans (ht.block k hk hn)⟩
theorem Zde{F2:Nat->Prop}(hs:w.heap.size<=w1.heap.size)(hF:∀k,F1 k->F k∨w.heap.size<=k)(h3:∀k,F2 k->F1 k∨w1.heap.size<=k):∀k,F2 k->F k∨w.heap.size<=k:=fun k hk=>by
 rcases h3 k hk with a|a
 · exact hF k a
 · exact .inr (ZZf hs a)
theorem Z4.join(ht:Zf F w w1)(hF:∀k,F1 k->F k∨w.heap.size<=k)(h:Z4 D w1 F1 p S2 w2):Z4 D w F p S2 w2:=by
 obtain⟨F2,h1,h2,h3⟩:=h;exact⟨F2,h1,ht.join hF h2,Zde ht.size hF h3⟩
theorem Z4.below(api:Zb D)(h:Z4 D w F p S w1)(hb:Below w1.heap.size w1 w2):Z4 D w F p S w2:=by
 obtain⟨F1,h1,h2,h3⟩:=h;exact⟨F1,api.below h1 hb,⟨hb.os.trans h2.os,hb.tape.trans h2.tape,hb.output.trans h2.output,ZZf h2.size hb.size,fun k hk hF=>(hb.block k (ZZd hk h2.size)).trans (h2.block k hk hF)⟩,h3⟩
theorem Z4.same(h:D w F p S):Z4 D w F p S w:=⟨F,h,Zf.refl _ _,fun k hk=>.inl hk⟩
theorem Z4.later(api:Zb D)(h:D w F p S)(hb:Below w.heap.size w w1):Z4 D w F p S w1:=(Z4.same h).below api hb
def ZoN(D:World->(Nat->Prop)->Addr->DS->Prop)(w:World)(F:Nat->Prop)(p:Addr)(S:DS)(A:Option Addr)(n:Nat)(l:List (Int×List Int))(k:Nat)(wr:World):Prop:=
 ∃F' S',D wr F' p S'/\Zf F w wr/\(∀j,F' j->F j∨w.heap.size<=j)/\Zdk S l=Zdk S' (l.drop k)/\Zbb wr F' A n l/\S'.writes<=S.writes+k
theorem ZgN(api:Zb D){A:Option Addr}{n c:Nat}{l:List (Int×List Int)}(h:D w F p S)(hl:Zbb w F A n l)(h256:∀y∈l,y.2.length=256)(hn:n<=65536)(hw:S.writes+n<=9223372036854775806) :
 Calls prog 84 #[.pointer (some p),.slice A n c] w fun e w'=>e=.returned (.int .i64 (Zdk S l).1)/\Z4 D w F p (Zdk S l).2 w':=by
 have hlen:=hl.1;have HM0:=hid (show ZoN D w F p S A n l 0 w from⟨F,S,h,Zf.refl _ _,fun j hj=>.inl hj,rfl,hl,ZZe _⟩);clear h hl;go_enter func84,ntmps84;go_wp2
 go_loopw[10] (fun i wr=>∃k:Nat,k<=n/\i=.int .i64 k/\Hid (ZoN D w F p S A n l k wr)) (fun i _=>n-(intOf i).toNat)
 case atStart=>exact⟨0,Nat.zero_le _,rfl,HM0⟩
 case round=>
  obtain⟨k,hk,rfl,hM⟩:=hrel;obtain⟨F1,S1,h1,hT1,hF1,he1,hl1,hw1⟩:=hM.out;by_cases hlt:k<n
  · have hlt':(k:Int)<(n:Int):=by omega
    obtain⟨y,hy⟩:∃y,l[k]?=some y:=⟨_,ZZc (by omega)⟩
    obtain⟨b,rfl,hFb,hbl,hat⟩:=hl1.2 (by omega);obtain⟨c1,G,m,cm,c2,hmc,hm63,hrb,hap⟩:=hat k y hy;have hm:m=256:=by rw[<-hrb.len];exact h256 y (List.mem_of_getElem? hy)
    subst hm;rw[ZqW hy,ZgM]at he1;have hX:Below wr.heap.size wr (wr.alloc (.cells #[.int .i64 y.1,.slice G 256 cm] 141)):=(Below.refl _ _).alloc (ZZe _) _;have h1X:=api.below h1 hX;have hrX:=hrb.below hX;have HW:=hid (api.write y.1 G 256 cm _ y.2 _ _ _ _ h1X hrX hmc (by decide) (by omega) (fun a ha=>hap a ha (by decide)))
    have HJ:=hid (show ∀w' S',Z4 D (wr.alloc (.cells #[.int .i64 y.1,.slice G 256 cm] 141)) F1 p S' w'->Z4 D w F p S' w'/\∃F2,D w' F2 p S'/\Zf F w w'/\(∀k,F2 k->F k∨w.heap.size<=k)/\Zbb w' F2 (some ⟨b,0,none⟩) n l from fun w' S' hW=>by
     obtain⟨F2,g1,g2,g3⟩:=Z4.join (Zf.of_below hX) (fun k hk=>.inl hk) hW;refine⟨Z4.join hT1 hF1 ⟨F2,g1,g2,g3⟩,F2,g1,hT1.join hF1 g2,Zde hT1.size hF1 g3,hl1.keep g2.size (fun k hk hn hf=>?_) (fun k hk hn=>g2.block k hk hn)⟩;rcases g3 k hf with a|a
     · exact hn a
     · omega)
    obtain⟨hmw,hmn⟩:=Zhy S1 y.1 y.2;have HE:=hid he1;have hn63:n<=9223372036854775807:=by omega
    clear hat hrb hap h1 hT1 hF1 hl1 h1X hrX HM0 hM he1 hX;by_cases h0:S1.writeE y.1 y.2=0
    · have H0:=hid h0;have HE3:=hid (HE.out.trans (Zb4 (r:=S1.wr y.1 y.2) h0));clear h0;go_wp2_with fail;refine HW.out.mono ?_;rw[H0.out];rintro e w2⟨rfl,hW2⟩;obtain⟨_,F2,j1,j2,j3,j4⟩:=HJ.out _ _ hW2;have hM2:=hid (show ZoN D w F p S (some ⟨b,0,none⟩) n l (k+1) w2 from⟨F2,_,j1,j2,j3,HE3.out,j4,by omega⟩);clear hW2 j1 j2 j3 j4;go_wp2;go_roundw
      case rel=>exact⟨k+1,by omega,by go_num,hM2⟩
      case measure=>simp[intOf];omega
    · have kne:(S1.writeE y.1 y.2 != 0)=true:=by simpa using h0
      have KN:=hid kne;have HE3:=hid (HE.out.trans (Zdc (r:=S1.wr y.1 y.2) h0));clear h0 kne;go_wp2_with fail;refine HW.out.mono ?_;rintro e w2⟨rfl,hW2⟩;have hF:=hid (HJ.out _ _ hW2).1;have kne:=KN.out;clear hW2;go_wp2;go_ret;rw[HE3.out];exact⟨rfl,hF.out⟩
  · obtain rfl:k=n:=by omega
    rw[<-hlen,List.drop_length]at he1;have HE:=hid he1;have HF:=hid (api.flush _ _ _ _ h1);have HT:=hid (ZZg hT1 hF1);clear he1 h1 hT1 hF1 hl1 hM HM0;go_wp2_with fail;refine HF.out.mono ?_;rintro e w2⟨rfl,hW2⟩;have hF:=hid (Z4.join HT.out.1 HT.out.2 hW2);clear hW2;go_wp2;go_ret;rw[HE.out];exact⟨rfl,hF.out⟩
end
structure Zdf(w:World)(F:Nat->Prop):Prop where
 tab:Tab w
 lt:1<w.heap.size
 out:¬F 1
section
variable{D:World->(Nat->Prop)->Addr->DS->Prop}{w w1 w2:World}{F F1:Nat->Prop}{p:Addr}{S S1 S2:DS}
theorem Zdf.below(h:Zdf w F)(hb:Below w.heap.size w w1):Zdf w1 F:=⟨h.tab.below hb h.lt,ZZd h.lt hb.size,h.out⟩
theorem Za1{w:World}{b:Nat}{x0 y0:Value}(x y:Value)(c0:w.cell? ⟨b,0,none⟩=some x0)(c1:w.cell? ⟨b,1,none⟩=some y0):((w.setCell ⟨b,0,none⟩ x).setCell ⟨b,1,none⟩ y).cell? ⟨b,0,none⟩=some x/\((w.setCell ⟨b,0,none⟩ x).setCell ⟨b,1,none⟩ y).cell? ⟨b,1,none⟩=some y:=by
 have e:(w.setCell ⟨b,0,none⟩ x).cell? ⟨b,1,none⟩=some y0:=(World.cell?_setCell_other w ⟨b,0,none⟩ ⟨b,1,none⟩ x (by simp)).trans c1;exact⟨(World.cell?_setCell_other _ ⟨b,1,none⟩ ⟨b,0,none⟩ y (by simp)).trans (World.cell?_setCell_same w _ x c0),World.cell?_setCell_same _ _ y e⟩
theorem Zbb.one{w:World}{F:Nat->Prop}{b g c n:Nat}{T:TypeId}{x:Int}{l:List Int}(h:w.heap[b]?=some (.cells #[.int .i64 x,.slice (some ⟨g,0,none⟩) n c] T (0,0)))(hb:¬F b)(hg:¬F g)(hc:n<=c)(hn:n<=9223372036854775807)(hr:RB w w.heap.size (some ⟨g,0,none⟩) n l):Zbb w F (some ⟨b,0,none⟩) 1 [(x,l)]:=by
 refine⟨rfl,fun _=>⟨b,rfl,hb,(ZZa.1 h).1,fun i y hy=>?_⟩⟩;obtain⟨hi,e⟩:=ZZb.1 hy;obtain rfl:i=0:=by simpa using hi
 obtain rfl:(x,l)=y:=e;refine⟨?_,some ⟨g,0,none⟩,n,c,?_,hc,hn,hr,fun a ha _=>by cases ha;exact hg⟩
 · rw[cell_of_row w b _ _ _ (0,0) h];rfl
 · rw[cell_of_row w b _ _ _ (0,0) h];rfl
theorem ZhF(count seq:Int)(hs:Zey count seq=true)(ht:Zdf w F) :
 Calls prog 83 #[.int .i64 count,.int .i64 seq] w fun e w'=>∃g c,e=.returned (.tuple #[.agg #[.int .i64 0,.slice (some ⟨g,0,none⟩) 256 c],.int .i64 0])/\256<=c/\w.heap.size<=g/\RB w' w'.heap.size (some ⟨g,0,none⟩) 256 (Zav count seq ZH)/\Below w.heap.size w w':=by
 obtain⟨i0,hi,hz0,hz1,hz2⟩:=info_parts Zbg;have hsb:=Zhf count seq ZaS.2;have hsl:(Zav count seq ZH).length=256:=by rw[ZaV,ZaS.1]
 have HT:=hid ht;have HS:=hid hs;have HPS:=hid ZjX;have HM:=hid ZbH.mark;clear ht hs;go_enter func83,ntmps83
 go_wp2_with (refine wpList_make_full (w.alloc (.cells #[.int .i64 0,.slice none 0 0] 141)) rfl _ _ 55 rfl (w.heap.size+1) 5 i0 (.int .u8 0) 1 underlying55 hi hz0 hz1 .i64 .i64 _ _ 240 rfl rfl rfl rfl (by rw[hz2];decide) (by decide) (by simp) ?_;intro w1 hown1 hg1;have hb1:Below (w.heap.size+1) (w.alloc (.cells #[.int .i64 0,.slice none 0 0] 141)) w1:=(Below.refl _ _).grown hg1 (by simp) (by simp);have hr1:RB w1 w1.heap.size _ 240 ZH:=RB.made hown1;clear hown1 hg1)
 have hb01:Below w.heap.size w w1:=((Below.refl w.heap.size w).alloc (ZZe _) _).trans (hb1.mono (ZZh _));have hcell1:w1.heap[w.heap.size]?=some (.cells #[.int .i64 0,.slice none 0 0] 141 (0,0)):=(hb1.block _ (Nat.lt_succ_self _)).trans (heap_alloc_new _ _);have ht1:=HT.out.below hb01;have hs0:(w.alloc (.cells #[.int .i64 0,.slice none 0 0] 141)).heap.size=w.heap.size+1:=by simp
 rw[hs0]at hr1;have hpk:=HPS.out _ _ _ _ ZH count seq _ hr1 (ZZe _) (ZZe _) (by omega) ht1.tab ht1.lt;rw[show Zdl count seq ZH=(Zav count seq ZH,0)from by unfold Zdl;rw[if_pos ⟨HS.out,ZaS.1⟩]]at hpk;refine hpk.mono ?_;clear hpk;rintro e w2⟨v2,rfl,hown2,hb2⟩;simp only[hsl]at hown2;obtain⟨g,c,rfl,hc,hg⟩:=ZfV hown2 (by decide);have hr2:RB w2 w2.heap.size (some ⟨g,0,none⟩) 256 (Zav count seq ZH):=RB.of_own hown2 hsb;have hb02:=hb01.trans (hb2.mono hb01.size);have hg0:w.heap.size<g:=by have:=hb1.size;omega
 have HF:=hid (ZZg hc (ZZg hg0 (ZZg hr2 hb02)));have hcell2:=(hb2.block _ (show w.heap.size<w1.heap.size by have:=hb1.size;omega)).trans hcell1;have c0:w2.cell? ⟨w.heap.size,0,none⟩=some (.int .i64 0):=by rw[cell_of_row w2 _ 0 _ _ (0,0) hcell2];rfl
 have c1:w2.cell? ⟨w.heap.size,1,none⟩=some (.slice none 0 0):=by rw[cell_of_row w2 _ 1 _ _ (0,0) hcell2];rfl
 have f0:w2.frozen? ⟨w.heap.size,0,none⟩=false:=by simp[World.frozen?,hcell2]
 have f1:w2.frozen? ⟨w.heap.size,1,none⟩=false:=by simp[World.frozen?,hcell2]
 clear hown2 hr1 hb1 hb2 hb02 hr2 ht1 hc hg hg0
 go_wp2_with (go_at_call 86;refine(HM.out _).mono ?_;rintro e w3 ⟨rfl,rfl⟩)
 obtain⟨d0,d1⟩:=Za1 (.int .i64 0) (.slice (some ⟨g,0,none⟩) 256 c) c0 c1
 refine bodyPost_ret (v:=.tuple #[.agg #[.int .i64 0,.slice (some ⟨g,0,none⟩) 256 c],.int .i64 0]) (by
  generalize ((w2.setCell ⟨w.heap.size,0,none⟩ (Value.int IntKind.i64 0)).setCell ⟨w.heap.size,1,none⟩ (Value.slice (some ⟨g,0,none⟩) 256 c))=X at *
  simp[results,Tryz.results83,go_sem,d0,d1]) rfl ?_
 obtain⟨q1,q2,q3,q4⟩:=HF.out;refine⟨g,c,rfl,q1,Nat.le_of_lt q2,q3.there (by decide) ?_ (by simp),(q4.setCell (ZZe _) _).setCell (ZZe _) _⟩;rw[Below.heap_setCell _ _ _ _ (by simp;omega),Below.heap_setCell _ _ _ _ (by simp;omega)]
theorem Zm8(api:Zb D)(h:D w F p S)(ht:Zdf w F)(hw:S.writes<=9223372036854775800) :
 Calls prog 34 #[.pointer (some p)] w fun e w'=>e=.returned (.int .i64 (ZV S 0 1).1)/\Z4 D w F p (ZV S 0 1).2 w':=by
 have HM:=hid (ZhF 0 1 (by decide) ht);go_enter func34,ntmps34;go_wp2_with fail;refine HM.out.mono ?_;rintro e w1⟨g,c,rfl,hc,hg,hr1,hb1⟩;have hlt:=api.lt _ _ _ _ h;have hgl:g<w1.heap.size:=by obtain⟨bb,_,e,hbb,_⟩:=hr1.at_ (by decide);cases e;exact hbb
 have hX:Below w1.heap.size w1 ((w1.alloc (.cells #[.int .i64 0,.slice (some ⟨g,0,none⟩) 256 c] 141)).alloc (.cells #[.int .i64 0,.slice (some ⟨g,0,none⟩) 256 c] 141)):=((Below.refl _ _).alloc (ZZe _) _).alloc (by simp) _;have hb2:=hb1.trans (hX.mono hb1.size);have h2:=api.below h hb2;have hs1:=hb1.size
 have hbk:((w1.alloc (.cells #[.int .i64 0,.slice (some ⟨g,0,none⟩) 256 c] 141)).alloc (.cells #[.int .i64 0,.slice (some ⟨g,0,none⟩) 256 c] 141)).heap[w1.heap.size+1]?=some (.cells #[.int .i64 0,.slice (some ⟨g,0,none⟩) 256 c] 141 (0,0)):=by
  have:=heap_alloc_new (w1.alloc (.cells #[.int .i64 0,.slice (some ⟨g,0,none⟩) 256 c] 141)) (.cells #[.int .i64 0,.slice (some ⟨g,0,none⟩) 256 c] 141)
  simpa using this
 have HP:=hid (ZgN api (c:=1) h2 (Zbb.one hbk (fun hf=>by have:=hlt _ hf;omega) (fun hf=>by have:=hlt _ hf;omega) hc (by decide) (hr1.there (by decide) (hX.block g hgl) hX.size)) (fun y hy=>by obtain rfl:=List.mem_singleton.1 hy;exact(ZaV ..).trans (by rw[ZaS.1])) (by decide) (by omega));have HT:=hid (Zf.of_below (F:=F) hb2);have HS:=hid (ZgI S (c:=0) (s:=1) (by decide));clear h h2 hX hb1 hb2 hr1 hlt;go_wp2_with fail;refine HP.out.mono ?_;rintro e w2⟨rfl,hW⟩;have hF:=hid (Z4.join HT.out (fun k hk=>.inl hk) hW);clear hW;go_wp2;go_ret;rw[HS.out];exact⟨rfl,hF.out⟩
end
def Zdq(w:World)(q:Nat)(p:Addr)(seq:Int):Prop:=w.heap[q]?=some (.cells #[.pointer (some p),.int .i64 seq] 148 (0,0))
section
variable{D:World->(Nat->Prop)->Addr->DS->Prop}{w:World}{F:Nat->Prop}{p:Addr}{S:DS}{q:Nat}{seq:Int}
theorem Zdq.cells(h:Zdq w q p seq):w.cell? ⟨q,0,none⟩=some (.pointer (some p))/\w.cell? ⟨q,1,none⟩=some (.int .i64 seq)/\w.frozen? ⟨q,1,none⟩=false/\q<w.heap.size:=by
 refine⟨?_,?_,?_,(ZZa.1 h).1⟩
 · rw[cell_of_row w q 0 _ _ (0,0) h];rfl
 · rw[cell_of_row w q 1 _ _ (0,0) h];rfl
 · simp[World.frozen?,show w.heap[q]?=_ from h]
theorem Zdq.keep{w':World}(h:Zdq w q p seq)(e:w'.heap[q]?=w.heap[q]?):Zdq w' q p seq:=e.trans h
theorem Zdq.below{w':World}(h:Zdq w q p seq)(hb:Below w.heap.size w w'):Zdq w' q p seq:=h.keep (hb.block q h.cells.2.2.2)
theorem ZfY(hq:Zdq w q p seq):Calls prog 146 #[.pointer (some ⟨q,0,none⟩)] w fun e w'=>e=.returned (.bool true)/\w=w':=by
 obtain⟨l0,l1,l2,l3⟩:=hq.cells;clear hq;go_enter func146,ntmps146;go_wp2;go_ret;exact⟨rfl,rfl⟩
theorem ZdX(api:Zb D)(h:D w F p S)(hq:Zdq w q p seq):Calls prog 89 #[.pointer (some ⟨q,0,none⟩)] w fun e w'=>e=.returned (.int .i64 (pagesOf S.n))/\w'=w:=by
 obtain⟨l0,l1,l2,l3⟩:=hq.cells;have hok:=api.ok _ _ _ _ h;have hsz:=hok.size;have HM:=hid (ZfY hq);have HS:=hid (api.sizeSame _ _ _ _ h);clear hq h;go_enter func89,ntmps89;go_wp2_with fail;refine HM.out.mono ?_;rintro e w1⟨rfl,rfl⟩;go_wp2_with fail;refine HS.out.mono ?_;rintro e w1⟨rfl,rfl⟩;go_wp2_with fail;refine(ZbH.pages (S.n:Int) w1 (by omega)).mono ?_;rintro e w2⟨rfl,rfl⟩;go_wp2;go_ret;exact⟨rfl,rfl⟩
theorem ZoO(api:Zb D)(h:D w F p S)(hq:Zdq w q p seq):Calls prog 89 #[.pointer (some ⟨q,0,none⟩)] w fun e w'=>e=.returned (.int .i64 (pagesOf S.n))/\Below w.heap.size w w':=
 (ZdX api h hq).mono fun e w' ⟨h1,h2⟩=>⟨h1,h2 ▸ Below.refl _ _⟩
theorem ZpV(api:Zb D)(h:D w F p S)(hq:Zdq w q p seq)(ht:Zdf w F)(pg:Int)(hpg : -9223372036854775808<=pg/\pg<=9223372036854775807):Calls prog 113 #[.pointer (some ⟨q,0,none⟩),.int .i64 pg] w fun e w'=>∃A n c,e=.returned (.tuple #[.slice A n c,.int .i64 (Za9 S pg).2])/\n<=c/\RB w' w'.heap.size A n (Za9 S pg).1/\Below w.heap.size w w':=by
 obtain⟨i0,hi,hz0,hz1,hz2⟩:=info_parts Zbg;obtain⟨l0,l1,l2,l3⟩:=hq.cells;have hok:=api.ok _ _ _ _ h;have hsz:=hok.size;have hpb:=Zm (S.n:Int);have hpn:=(ZN (S.n:Int)).2.1 (by omega);have hP:S.P=pagesOf S.n:=rfl;have HM:=hid (ZfY hq);have HS:=hid (api.sizes _ _ _ _ h);have HT:=hid ht;have HUP:=hid Zep;have HHM:=hid (fun w1=>ZbH.home (S.n:Int) pg w1 (by omega) hpg);have HRD:=hid (fun w1 (hb:Below w.heap.size w w1)=>api.read (pg+1+pagesOf S.n) w1 F p S (api.below h hb));by_cases hr:pg<0∨pg≥pagesOf S.n
 · have hL:Za9 S pg=([],1):=by unfold Za9;rw[hP,if_pos hr]
   have hh:ZaL (S.n:Int) pg=(0,false):=by unfold ZaL;rw[if_pos hr]
   rw[hh]at HHM;rw[hL];clear hL hh hr h hq ht hok;go_enter func113,ntmps113;go_wp2_with fail;refine HM.out.mono ?_;rintro e w1⟨rfl,rfl⟩;go_wp2_with fail;refine HS.out.mono ?_;rintro e w1⟨rfl,hb1⟩;have l0:=(hb1.cell (p:=⟨q,0,none⟩) l3).trans l0;go_wp2_with fail;refine(HHM.out w1).mono ?_;rintro e w2⟨rfl,rfl⟩;go_wp2;go_ret2;exact⟨none,0,0,rfl,ZZe _,RB.nil_,hb1⟩
 have hh:ZaL (S.n:Int) pg=(pg+1+pagesOf S.n,true):=by unfold ZaL;rw[if_neg hr]
 rw[hh]at HHM;by_cases hd:S.down=true
 · have hL:Za9 S pg=([],5):=by unfold Za9;rw[hP,if_neg hr,if_pos hd]
   have hre:S.readE (pg+1+pagesOf S.n)=5:=by simp[DS.readE,hd]
   have hrl:S.readL (pg+1+pagesOf S.n) = []:=by simp[DS.readL,hre]
   rw[hre,hrl]at HRD;rw[hL];clear hL hh hr h hq ht hok hre hrl hd;go_enter func113,ntmps113;go_wp2_with fail;refine HM.out.mono ?_;rintro e w1⟨rfl,rfl⟩;go_wp2_with fail;refine HS.out.mono ?_;rintro e w1⟨rfl,hb1⟩;have l0:=(hb1.cell (p:=⟨q,0,none⟩) l3).trans l0;go_wp2_with fail;refine(HHM.out w1).mono ?_;rintro e w2⟨rfl,rfl⟩;go_wp2_with fail;refine(HRD.out w1 hb1).mono ?_;rintro e w3⟨A3,n3,c3,rfl,hc3,hr3,hb3⟩;have hb03:=hb1.trans (hb3.mono hb1.size);have ht3:=HT.out.below hb03;have HB:=hid hb03;clear hb03 ht3;go_wp2;go_ret2;exact⟨none,0,0,rfl,ZZe _,RB.nil_,HB.out⟩
 have hd':S.down=false:=by simpa using hd
 obtain⟨a,ha⟩:=Int.eq_ofNat_of_zero_le (show 0<=pg+1+pagesOf S.n by omega)
 have hre:S.readE (pg+1+pagesOf S.n)=0:=by
  unfold DS.readE;rw[if_neg (by simp[hd']),if_pos (show S.has _ from⟨by omega,by omega⟩)]
 have hrl:S.readL (pg+1+pagesOf S.n)=S.last a:=by
  unfold DS.readL;rw[if_pos hre,ha,Int.toNat_natCast]
 rw[hre,hrl]at HRD;have hbytes:=hok.lastBytes a;have HLN:=hid hbytes.1
 have hL:Za9 S pg=if(Zd (S.last a)).2.2.2≠0∨(Zd (S.last a)).1≠pg then(ZH,0)else((Zd (S.last a)).2.2.1,0):=by
  unfold Za9;rw[hP,if_neg hr,if_neg hd,ha,Int.toNat_natCast]
 have HL:=hid hL;clear hL hh hr h hq ht hok hre hrl hd hd' ha hbytes;generalize hpge:(Zd (S.last a)).1=pe at HL;generalize her:(Zd (S.last a)).2.2.2=er at HL;have HPE:=hid (ZZg hpge her);clear hpge her;by_cases h1:er=0
 · subst h1;by_cases h2:pe=pg
   · subst h2;have k2:(pe == pe)=true:=by simp
     have HL2:=hid (HL.out.trans (if_neg (by simp)));go_enter func113,ntmps113;go_wp2_with fail;refine HM.out.mono ?_;rintro e w1⟨rfl,rfl⟩;go_wp2_with fail;refine HS.out.mono ?_;rintro e w1⟨rfl,hb1⟩;have l0:=(hb1.cell (p:=⟨q,0,none⟩) l3).trans l0;go_wp2_with fail;refine(HHM.out w1).mono ?_;rintro e w2⟨rfl,rfl⟩;go_wp2_with fail;refine(HRD.out w1 hb1).mono ?_;rintro e w3⟨A3,n3,c3,rfl,hc3,hr3,hb3⟩;have hb03:=hb1.trans (hb3.mono hb1.size);have ht3:=HT.out.below hb03;go_wp2_with fail;refine(HUP.out A3 n3 c3 _ _ w3 hr3 (ZZe _) hc3 (by have:=hr3.len;rw[HLN.out]at this;omega) ht3.tab ht3.lt).mono ?_;rw[HPE.out.1,HPE.out.2];rintro e w4⟨A4,n4,c4,rfl,hc4,hr4,hb4⟩;have hb04:=hb03.trans (hb4.mono hb03.size);have HF:=hid (ZZg hc4 (ZZg hr4 hb04));clear hc4 hr4 hb4 hb04 hr3 hb3 hb03 ht3;go_wp2;go_ret2;rw[HL2.out];exact⟨_,_,_,rfl,HF.out⟩
   · have k2:(pe == pg)=false:=by simpa using h2
     have HL2:=hid (HL.out.trans (if_pos (.inr h2)));clear h2;go_enter func113,ntmps113;go_wp2_with fail;refine HM.out.mono ?_;rintro e w1⟨rfl,rfl⟩;go_wp2_with fail;refine HS.out.mono ?_;rintro e w1⟨rfl,hb1⟩;have l0:=(hb1.cell (p:=⟨q,0,none⟩) l3).trans l0;go_wp2_with fail;refine(HHM.out w1).mono ?_;rintro e w2⟨rfl,rfl⟩;go_wp2_with fail;refine(HRD.out w1 hb1).mono ?_;rintro e w3⟨A3,n3,c3,rfl,hc3,hr3,hb3⟩;have hb03:=hb1.trans (hb3.mono hb1.size);have ht3:=HT.out.below hb03;go_wp2_with fail;refine(HUP.out A3 n3 c3 _ _ w3 hr3 (ZZe _) hc3 (by have:=hr3.len;rw[HLN.out]at this;omega) ht3.tab ht3.lt).mono ?_;rw[HPE.out.1,HPE.out.2];rintro e w4⟨A4,n4,c4,rfl,hc4,hr4,hb4⟩;have hb04:=hb03.trans (hb4.mono hb03.size);clear hc4 hr4 hb4 hr3 hb3 hb03 ht3
     go_wp2_with (refine wpList_make_full w4 rfl _ _ 55 rfl w4.heap.size 5 i0 (.int .u8 0) 1 underlying55 hi hz0 hz1 .i64 .i64 _ _ 240 rfl rfl rfl rfl (by rw[hz2];decide) (by decide) (ZZe _) ?_;intro w5 hown5 hg5;have hb5:Below w4.heap.size w4 w5:=(Below.refl _ _).grown hg5 (ZZe _) (by simp);have hr5:RB w5 w5.heap.size _ 240 ZH:=RB.made hown5;have HF:=hid (ZZg hr5 (hb04.trans (hb5.mono hb04.size)));clear hown5 hg5 hb5 hr5)
     go_ret2;rw[HL2.out];exact⟨_,240,240,rfl,ZZe _,HF.out⟩
 · have k1:(er == 0)=false:=by simpa using h1
   have HL2:=hid (HL.out.trans (if_pos (.inl h1)));clear h1;go_enter func113,ntmps113;go_wp2_with fail;refine HM.out.mono ?_;rintro e w1⟨rfl,rfl⟩;go_wp2_with fail;refine HS.out.mono ?_;rintro e w1⟨rfl,hb1⟩;have l0:=(hb1.cell (p:=⟨q,0,none⟩) l3).trans l0;go_wp2_with fail;refine(HHM.out w1).mono ?_;rintro e w2⟨rfl,rfl⟩;go_wp2_with fail;refine(HRD.out w1 hb1).mono ?_;rintro e w3⟨A3,n3,c3,rfl,hc3,hr3,hb3⟩;have hb03:=hb1.trans (hb3.mono hb1.size);have ht3:=HT.out.below hb03;go_wp2_with fail;refine(HUP.out A3 n3 c3 _ _ w3 hr3 (ZZe _) hc3 (by have:=hr3.len;rw[HLN.out]at this;omega) ht3.tab ht3.lt).mono ?_;rw[HPE.out.1,HPE.out.2];rintro e w4⟨A4,n4,c4,rfl,hc4,hr4,hb4⟩;have hb04:=hb03.trans (hb4.mono hb03.size);clear hc4 hr4 hb4 hr3 hb3 hb03 ht3
   go_wp2_with (refine wpList_make_full w4 rfl _ _ 55 rfl w4.heap.size 5 i0 (.int .u8 0) 1 underlying55 hi hz0 hz1 .i64 .i64 _ _ 240 rfl rfl rfl rfl (by rw[hz2];decide) (by decide) (ZZe _) ?_;intro w5 hown5 hg5;have hb5:Below w4.heap.size w4 w5:=(Below.refl _ _).grown hg5 (ZZe _) (by simp);have hr5:RB w5 w5.heap.size _ 240 ZH:=RB.made hown5;have HF:=hid (ZZg hr5 (hb04.trans (hb5.mono hb04.size)));clear hown5 hg5 hb5 hr5)
   go_ret2;rw[HL2.out];exact⟨_,240,240,rfl,ZZe _,HF.out⟩
end
section
variable{D:World->(Nat->Prop)->Addr->DS->Prop}{w:World}{F:Nat->Prop}{p:Addr}{S:DS}{q:Nat}{seq:Int}
def Zq2(w:World)(P:Int)(r:Option (Int×List Int))(e:Ending)(w':World):Prop:=
 Below w.heap.size w w'/\match r with
 | none=>e=.returned (.tuple #[.agg #[.int .i64 0,.slice none 0 0],.bool false,.int .i64 0])
 | some y=>∃g c,e=.returned (.tuple #[.agg #[.int .i64 (y.1+1+P),.slice (some ⟨g,0,none⟩) 256 c],.bool true,.int .i64 0])/\256<=c/\w.heap.size<=g/\RB w' w'.heap.size (some ⟨g,0,none⟩) 256 y.2
theorem Ziu{w w1:World}(h:Below (w.heap.size+1) (w.alloc (.cells #[.int .i64 0,.slice none 0 0] 141)) w1):Below w.heap.size w w1/\w1.cell? ⟨w.heap.size,0,none⟩=some (.int .i64 0)/\w1.cell? ⟨w.heap.size,1,none⟩=some (.slice none 0 0)/\w1.frozen? ⟨w.heap.size,0,none⟩=false/\w1.frozen? ⟨w.heap.size,1,none⟩=false/\w.heap.size+1<=w1.heap.size:=by
 have hc:w1.heap[w.heap.size]?=some (.cells #[.int .i64 0,.slice none 0 0] 141 (0,0)):=(h.block _ (Nat.lt_succ_self _)).trans (heap_alloc_new _ _);refine⟨((Below.refl w.heap.size w).alloc (ZZe _) _).trans (h.mono (ZZh _)),?_,?_,?_,?_,?_⟩
 · rw[cell_of_row w1 _ 0 _ _ (0,0) hc];rfl
 · rw[cell_of_row w1 _ 1 _ _ (0,0) hc];rfl
 · simp[World.frozen?,hc]
 · simp[World.frozen?,hc]
 · have:=h.size;simpa using this
theorem ZgO{w w1:World}(h:Below (w.heap.size+1) (w.alloc (.cells #[.int .i64 0,.slice none 0 0] 141)) w1)(x y:Value):Below w.heap.size w ((w1.setCell ⟨w.heap.size,0,none⟩ x).setCell ⟨w.heap.size,1,none⟩ y)/\∀(g n:Nat) (l:List Int),0<n->w.heap.size<g->RB w1 w1.heap.size (some ⟨g,0,none⟩) n l->RB ((w1.setCell ⟨w.heap.size,0,none⟩ x).setCell ⟨w.heap.size,1,none⟩ y) ((w1.setCell ⟨w.heap.size,0,none⟩ x).setCell ⟨w.heap.size,1,none⟩ y).heap.size (some ⟨g,0,none⟩) n l:=by
 refine⟨((Ziu h).1.setCell (ZZe _) _).setCell (ZZe _) _,fun g n l hn hg hr=>hr.there hn ?_ (by simp)⟩;rw[Below.heap_setCell _ _ _ _ (by simp;omega),Below.heap_setCell _ _ _ _ (by simp;omega)]
theorem Zm9(api:Zb D)(h:D w F p S)(hq:Zdq w q p seq)(ht:Zdf w F)(hd:S.down=false)(i:Nat)(hi:(i:Int)<pagesOf S.n):Calls prog 145 #[.pointer (some ⟨q,0,none⟩),.int .i64 (i:Int)] w fun e w'=>Zq2 w (pagesOf S.n) (Zcq S.n S.last seq i) e w':=by
 have hok:=api.ok _ _ _ _ h;have hsz:=hok.size;have hpb:=Zm (S.n:Int);have hpn:=(ZN (S.n:Int)).2.1 (by omega);have hsl:Zgm (S.n:Int) (i:Int)=((i:Int)+1,true):=by unfold Zgm;rw[if_neg (by omega)]
 have hre:S.readE ((i:Int)+1)=0:=by
  unfold DS.readE;rw[if_neg (by simp[hd]),if_pos (show S.has _ from⟨by omega,by omega⟩)]
 have HS:=hid (fun w1 (hb:Below w.heap.size w w1)=>api.sizes w1 F p S (api.below h hb));have HSL:=hid (fun w1=>ZbH.slot (S.n:Int) (i:Int) w1 (by omega) (by omega));rw[hsl]at HSL;have HRD:=hid (fun w1 (hb:Below w.heap.size w w1)=>api.readAt ((i:Int)+1) w1 F p S (api.below h hb) hre);rw[show((i:Int)+1).toNat=i+1 by omega]at HRD;have HT:=hid (fun w1 (hb:Below w.heap.size w w1)=>ht.below hb);have LC:=hid (fun w1 (hb:Below w.heap.size w w1)=>(hq.below hb).cells);have HUP:=hid Zep;have HSI:Zcq S.n S.last seq i=if(Zd (S.last (i+1))).2.2.2=0/\(Zd (S.last (i+1))).2.1=seq/\(Zd (S.last (i+1))).1<pagesOf S.n then some ((Zd (S.last (i+1))).1,S.last (i+1))else none:=rfl
 have hpg0:(Zd (S.last (i+1))).2.2.2=0->0<=(Zd (S.last (i+1))).1/\(Zd (S.last (i+1))).1<4294967296:=fun he=>⟨(Zeg he).1,(Zfz he).1⟩
 generalize hpge:(Zd (S.last (i+1))).1=pg at HSI hpg0;generalize hsee:(Zd (S.last (i+1))).2.1=se at HSI;generalize her:(Zd (S.last (i+1))).2.2.2=er at HSI hpg0;have HPE:=hid (ZZg hpge (ZZg hsee her));have HSI:=hid HSI;have hX0:Below (w.heap.size+1) (w.alloc (.cells #[.int .i64 0,.slice none 0 0] 141)) (w.alloc (.cells #[.int .i64 0,.slice none 0 0] 141)):=Below.refl _ _;have hw0:=(Ziu hX0).1;obtain⟨l0,l1,_,_⟩:=LC.out _ hw0;clear hpge hsee her hq ht h hok hsl hre;go_enter func145,ntmps145;go_wp2_with fail;refine(HS.out _ hw0).mono ?_;rintro e w1⟨rfl,hb1⟩;have hX1:=hX0.trans (hb1.mono (by simp));have hw1:=(Ziu hX1).1;clear l0 l1;obtain⟨l0,l1,_,_⟩:=LC.out _ hw1;go_wp2_with fail;refine(HSL.out w1).mono ?_;rintro e w2⟨rfl,rfl⟩;go_wp2_with fail;refine(HRD.out w1 hw1).mono ?_;rintro e w3⟨g,c,rfl,hc,hg,hr3,hb3⟩;have hX3:=hX1.trans (hb3.mono (Ziu hX1).2.2.2.2.2);have hw3:=(Ziu hX3).1;have ht3:=HT.out _ hw3;clear l0 l1;go_wp2_with fail;refine(HUP.out (some ⟨g,0,none⟩) 256 c _ _ w3 hr3 (ZZe _) hc (by omega) ht3.tab ht3.lt).mono ?_;rw[HPE.out.1,HPE.out.2.1,HPE.out.2.2];rintro e w4⟨A4,n4,c4,rfl,hc4,hr4,hb4⟩;have hX4:=hX3.trans (hb4.mono (Ziu hX3).2.2.2.2.2);have hw4:=(Ziu hX4).1;obtain⟨l0,l1,_,_⟩:=LC.out _ hw4;obtain⟨_,c0,c1,f0,f1,_⟩:=Ziu hX4;have hgl:g<w3.heap.size:=by obtain⟨bb,_,e,hbb,_⟩:=hr3.at_ (by decide);cases e;exact hbb
 have hgw:w.heap.size<g:=by have:=(Ziu hX1).2.2.2.2.2;omega
 have HR4:=hid (hr3.there (by decide) (hb4.block g hgl) hb4.size);clear hr3 hr4 hb1 hb3 hb4 hX0 hX1 hX3 hw0 hw1 hw3 ht3;by_cases h1:er=0
 · subst h1;by_cases h2:se=seq
   · subst h2;have k2:(se != se)=false:=by simp
     obtain⟨hp0,hp1⟩:=hpg0 rfl;have HHM:=hid (fun w1=>ZbH.home (S.n:Int) pg w1 (by omega) (by omega));by_cases h3:pg<pagesOf S.n
     · have hh:ZaL (S.n:Int) pg=(pg+1+pagesOf S.n,true):=by unfold ZaL;rw[if_neg (by omega)]
       rw[hh]at HHM;have HN:=hid (HSI.out.trans (if_pos ⟨rfl,rfl,h3⟩));clear h3 hh;go_wp2_with fail;refine(HS.out _ hw4).mono ?_;rintro e w5⟨rfl,hb5⟩;have hX5:=hX4.trans (hb5.mono (Ziu hX4).2.2.2.2.2);have hs5:=hb5.size;have HR5:=hid (HR4.out.there (by decide) (hb5.block g (by have:=HR4.out;obtain⟨bb,_,e,hbb,_⟩:=this.at_ (by decide);cases e;exact hbb)) hb5.size);clear c0 c1 f0 f1 l0 l1;obtain⟨_,c0,c1,f0,f1,_⟩:=Ziu hX5;have HXZ:=hid hX5;clear hb5 hX4 hX5 hw4;go_wp2_with fail;refine(HHM.out w5).mono ?_;rintro e w6⟨rfl,rfl⟩;obtain⟨d0,d1⟩:=Za1 (w:=w5) (.int .i64 (pg+1+pagesOf S.n)) (.slice (some ⟨g,0,none⟩) 256 c) c0 c1;have hE:=hid (ZgO HXZ.out (.int .i64 (pg+1+pagesOf S.n)) (.slice (some ⟨g,0,none⟩) 256 c));have HC:=hid (ZZg hc hgw);clear hc hgw hg hgl;go_wp2
       refine bodyPost_ret (v:=.tuple #[.agg #[.int .i64 (pg+1+pagesOf S.n),.slice (some ⟨g,0,none⟩) 256 c],.bool true,.int .i64 0]) (by
        generalize ((w5.setCell ⟨w.heap.size,0,none⟩ (Value.int IntKind.i64 (pg+1+pagesOf S.n))).setCell ⟨w.heap.size,1,none⟩ (Value.slice (some ⟨g,0,none⟩) 256 c))=X at *
        simp[results,Tryz.results145,go_sem,d0,d1]) rfl ?_
       rw[HN.out];exact⟨hE.out.1,g,c,rfl,HC.out.1,Nat.le_of_lt HC.out.2,hE.out.2 g 256 _ (by decide) HC.out.2 HR5.out⟩
     · have hh:ZaL (S.n:Int) pg=(0,false):=by unfold ZaL;rw[if_pos (by omega)]
       rw[hh]at HHM;have HN:=hid (HSI.out.trans (if_neg (fun h=>h3 h.2.2)));clear h3 hh;go_wp2_with fail;refine(HS.out _ hw4).mono ?_;rintro e w5⟨rfl,hb5⟩;have hX5:=hX4.trans (hb5.mono (Ziu hX4).2.2.2.2.2);have hs5:=hb5.size;have HR5:=hid (HR4.out.there (by decide) (hb5.block g (by have:=HR4.out;obtain⟨bb,_,e,hbb,_⟩:=this.at_ (by decide);cases e;exact hbb)) hb5.size);clear c0 c1 f0 f1 l0 l1;obtain⟨_,c0,c1,f0,f1,_⟩:=Ziu hX5;have HXZ:=hid hX5;clear hb5 hX4 hX5 hw4;go_wp2_with fail;refine(HHM.out w5).mono ?_;rintro e w6⟨rfl,rfl⟩;obtain⟨d0,d1⟩:=Za1 (w:=w5) (.int .i64 0) (.slice none 0 0) c0 c1;have hE:=hid (ZgO HXZ.out (.int .i64 0) (.slice none 0 0)).1;go_wp2
       refine bodyPost_ret (v:=.tuple #[.agg #[.int .i64 0,.slice none 0 0],.bool false,.int .i64 0]) (by
        generalize ((w5.setCell ⟨w.heap.size,0,none⟩ (Value.int IntKind.i64 0)).setCell ⟨w.heap.size,1,none⟩ (Value.slice none 0 0))=X at *
        simp[results,Tryz.results145,go_sem,d0,d1]) rfl ?_
       rw[HN.out];exact⟨hE.out,rfl⟩
   · have k2:(se != seq)=true:=by simpa using h2
     have HN:=hid (HSI.out.trans (if_neg (fun h=>h2 h.2.1)));have HXZ:=hid hX4;clear h2;obtain⟨d0,d1⟩:=Za1 (w:=w4) (.int .i64 0) (.slice none 0 0) c0 c1;have hE:=hid (ZgO HXZ.out (.int .i64 0) (.slice none 0 0)).1;go_wp2
     refine bodyPost_ret (v:=.tuple #[.agg #[.int .i64 0,.slice none 0 0],.bool false,.int .i64 0]) (by
      generalize ((w4.setCell ⟨w.heap.size,0,none⟩ (Value.int IntKind.i64 0)).setCell ⟨w.heap.size,1,none⟩ (Value.slice none 0 0))=X at *
      simp[results,Tryz.results145,go_sem,d0,d1]) rfl ?_
     rw[HN.out];exact⟨hE.out,rfl⟩
 · have k1:(er != 0)=true:=by simpa using h1
   have HN:=hid (HSI.out.trans (if_neg (fun h=>h1 h.1)));have HXZ:=hid hX4;clear h1;obtain⟨d0,d1⟩:=Za1 (w:=w4) (.int .i64 0) (.slice none 0 0) c0 c1;have hE:=hid (ZgO HXZ.out (.int .i64 0) (.slice none 0 0)).1;go_wp2
   refine bodyPost_ret (v:=.tuple #[.agg #[.int .i64 0,.slice none 0 0],.bool false,.int .i64 0]) (by
    generalize ((w4.setCell ⟨w.heap.size,0,none⟩ (Value.int IntKind.i64 0)).setCell ⟨w.heap.size,1,none⟩ (Value.slice none 0 0))=X at *
    simp[results,Tryz.results145,go_sem,d0,d1]) rfl ?_
   rw[HN.out];exact⟨hE.out,rfl⟩
end
theorem Zfk:(prog.info? 141).map (fun i=>(i.zero,i.size,i.bytes))=some (some (.agg #[.int .i64 0,.slice none 0 0]),2,32):=by kernel_rfl
theorem Zna:(prog.info? 167).map (fun i=>(i.zero,i.size,i.bytes))=some (some (.agg #[.int .i64 0,.slice none 0 0]),2,32):=by kernel_rfl
def Far(w:World)(F:Nat->Prop)(v u:Value)(m:Nat)(b:List Int):Prop:=
 ∃g c,u=.slice (some ⟨g,0,none⟩) m c/\m<=c/\¬F g/\v.ownBlock≠some g/\g<w.heap.size/\RB w w.heap.size (some ⟨g,0,none⟩) m b
structure ZgR(e m:Nat)(w:World)(F:Nat->Prop)(base:Nat)(v:Value)(l:List (Int×List Int)):Prop where
 row:∃vs,w.ownsRow base e 2 v l.length vs/\∀(i:Nat) (x:Int×List Int),l[i]?=some x->vs[i*2]?=some (.int .i64 x.1)/\∃u,vs[i*2+1]?=some u/\Far w F v u m x.2
 out:∀r,v.ownBlock=some r->¬F r
section
variable{e m:Nat}{w w':World}{F F':Nat->Prop}{base:Nat}{v:Value}{l:List (Int×List Int)}
theorem ZgR.start(e m:Nat)(w:World)(F:Nat->Prop)(base:Nat):ZgR e m w F base (.slice none 0 0) []:=
 ⟨⟨[],⟨rfl,.inl ⟨rfl,rfl⟩⟩,fun i x h=>by simp at h⟩,fun r h=>by simp[Value.ownBlock]at h⟩
theorem Far.keep{v u:Value}{b:List Int}(hm:0<m)(h:Far w F v u m b)(hs:w.heap.size<=w'.heap.size)(hF:∀k,k<w.heap.size->¬F k->¬F' k)(hk:∀k,k<w.heap.size->¬F k->v.ownBlock≠some k->w'.heap[k]?=w.heap[k]?):Far w' F' v u m b:=by
 obtain⟨g,c,h4,h5,h6,h7,h8,h9⟩:=h;exact⟨g,c,h4,h5,hF g h8 h6,h7,by omega,h9.there hm (hk g h8 h6 h7) hs⟩
theorem ZgR.keep(hm:0<m)(h:ZgR e m w F base v l)(hs:w.heap.size<=w'.heap.size)(hF:∀k,k<w.heap.size->¬F k->¬F' k)(hk:∀k,k<w.heap.size->¬F k->w'.heap[k]?=w.heap[k]?):ZgR e m w' F' base v l:=by
 obtain⟨vs,h1,h2⟩:=h.row;refine⟨⟨vs,ZcS h1 (fun g hg=>hk g (Zcj h1 g hg).2 (h.out g hg)),fun i x hx=>?_⟩,fun r hr=>hF r (Zcj h1 r hr).2 (h.out r hr)⟩;obtain⟨h3,u,h4,h5⟩:=h2 i x hx;exact⟨h3,u,h4,h5.keep hm hs hF (fun k hk1 hk2 _=>hk k hk1 hk2)⟩
theorem ZgR.below(hm:0<m)(h:ZgR e m w F base v l)(hb:Below w.heap.size w w'):ZgR e m w' F base v l:=h.keep hm hb.size (fun _ _ h=>h) (fun k hk _=>hb.block k hk)
theorem ZgR.push(hm:0<m){X w1:World}{v':Value}{x:Int}{u:Value}{b:List Int}(h:ZgR e m w F base v l)(hFlt:∀k,F k->k<w.heap.size)(hu:Far w F v u m b){vs:List Value}(hvs:w.ownsRow base e 2 v l.length vs)(hvl:∀(i:Nat) (x:Int×List Int),l[i]?=some x->vs[i*2]?=some (.int .i64 x.1)/\∃u,vs[i*2+1]?=some u/\Far w F v u m x.2)
 (hX:Below w.heap.size w X) (hown:w1.ownsRow base e 2 v' (l.length+1) (vs++[.int .i64 x,u])) (hg:X.grownBy w1 v.ownBlock) (hl:v'.ownBlock=v.ownBlock∨∃r,v'.ownBlock=some r/\w.heap.size<=r) :
 ZgR e m w1 F base v' (l++[(x,b)])/\w.heap.size<=w1.heap.size/\∀k,k<w.heap.size->v.ownBlock≠some k->w1.heap[k]?=w.heap[k]?:=by
 have hs:w.heap.size<=w1.heap.size:=ZZf hX.size hg.size;have hall:∀k,k<w.heap.size->v.ownBlock≠some k->w1.heap[k]?=w.heap[k]?:=fun k hk hne=>(hg.block k (ZZd hk hX.size) (fun e=>hne e.symm)).trans (hX.block k hk)
 have far:∀{u:Value} {y:List Int},Far w F v u m y->Far w1 F v' u m y:=fun {u y} ha=>by
  obtain⟨g,c,h4,h5,h6,h7,h8,h9⟩:=ha;refine⟨g,c,h4,h5,h6,fun e=>?_,by omega,h9.there hm (hall g h8 h7) hs⟩;rcases hl with a|⟨rr,a,hrr⟩
  · exact h7 (a.symm.trans e)
  · rw[a]at e;injection e with e;omega
 have hlen:(l++[(x,b)]).length=l.length+1:=by simp
 have hvlen:vs.length=l.length*2:=hvs.1;refine⟨⟨⟨vs++[.int .i64 x,u],by rw[hlen];exact hown,fun i y hy=>?_⟩,fun r hr=>?_⟩,hs,hall⟩
 · rcases Nat.lt_or_ge i l.length with hi|hi
   · rw[List.getElem?_append_left hi]at hy;obtain⟨h3,z,h4,h5⟩:=hvl i y hy;exact⟨by rw[List.getElem?_append_left (by omega)];exact h3,z,by rw[List.getElem?_append_left (by omega)];exact h4,far h5⟩
   · rw[List.getElem?_append_right hi]at hy
     have hi0:i-l.length=0:=by
      have:=(ZZb.1 hy).1
      simp at this;omega
     rw[hi0]at hy;obtain rfl:(x,b)=y:=by simpa using hy
     obtain rfl:i=l.length:=by omega
     refine⟨?_,u,?_,far hu⟩
     · rw[List.getElem?_append_right (by omega),hvlen,Nat.sub_self];rfl
     · rw[List.getElem?_append_right (by omega),hvlen,show l.length*2+1-l.length*2=1 by omega];rfl
 · rcases hl with a|⟨rr,a,hrr⟩
   · exact h.out r (a.symm.trans hr)
   · rw[a]at hr;injection hr with hr;intro hf
     have:=hFlt r hf
     omega
theorem ZgR.imgs(h:ZgR e m w F base v l)(hm:0<m/\m<=9223372036854775807):∃A c,v=.slice A l.length c/\l.length<=c/\Zbb w F A l.length l:=by
 obtain⟨vs,h1,h2⟩:=h.row;rcases h1.2 with ⟨rfl,h0⟩|⟨g,cap,cur,rfl,hb,hg,hc,_,_,htake⟩
 · rw[h0];exact⟨none,0,rfl,ZZe _,List.eq_nil_of_length_eq_zero h0 ▸ rfl,fun hn=>absurd hn (by omega)⟩
 · refine⟨_,cap,rfl,hc,rfl,fun hn=>⟨g,rfl,h.out g (by simp[Value.ownBlock]),(ZZa.1 hg).1,fun i y hy=>?_⟩⟩;have hi:=(ZZb.1 hy).1;obtain⟨h3,u,h4,g2,c2,rfl,h6,h7,h8,h9,h10⟩:=h2 i y hy;refine⟨?_,some ⟨g2,0,none⟩,m,c2,?_,h6,hm.2,h10,fun a ha _=>by cases ha;exact h7⟩
   · rw[cell_of_row w g (i*2) cur _ (0,0) hg,<-h3,<-htake,List.getElem?_take,if_pos (by omega)];simp
   · rw[cell_of_row w g (i*2+1) cur _ (0,0) hg,<-h4,<-htake,List.getElem?_take,if_pos (by omega)];simp
end
theorem ZaJ{w:World}{ops:Array Oper}{rest:List Oper}{o:Oper}{a:Act}{Q:Exit->Act->World->Prop}(hgd:o.guard=none)(s x:Operand)(t e:TypeId)
 (ho:o.op=.call {callee:=.builtin .append,args:=#[s,x],argTypes:=#[t,t]})
 (ht:prog.underlying t=some (.slice e)) (hinfo:(prog.info? e).map (fun i=>(i.zero,i.size,i.bytes))=some (some (.agg #[.int .i64 0,.slice none 0 0]),2,32))
 (base:Nat) (v:Value) (n:Nat) (xs:List Value) (hs:a.eval s=v) (b:Nat) (z u:Value) (T:TypeId) (hx:a.eval x=.slice (some ⟨b,0,none⟩) 1 1)
 (hown:w.ownsRow base e 2 v n xs) (hb:w.heap[b]?=some (.cells #[z,u] T)) (hz:z.oneCell'=true) (hu:u.oneCell'=true) (h63:n<=4294967296) (hbase:base<=w.heap.size)
 (h:∀A' c' w',w'.ownsRow base e 2 (.slice A' (n+1) c') (n+1) (xs++[z,u])->w.grownBy w' v.ownBlock->((Value.slice A' (n+1) c').ownBlock=v.ownBlock∨(Value.slice A' (n+1) c').ownBlock=some w.heap.size)->wpList prog ops Q rest (a.put o.dst (.slice A' (n+1) c')) w'):wpList prog ops Q (o::rest) a w:=by
 obtain⟨i0,hi,hz0,hz1,hz2⟩:=info_parts hinfo;refine wpList_append_own_at w hgd s x t ho base e i0 (.agg #[.int .i64 0,.slice none 0 0]) 2 32 ht hi hz0 hz1 hz2 rfl (by decide) v n _ hs hown ⟨b,0,none⟩ 1 1 [z,u] hx rfl (World.news_of_block (cs:=#[z,u]) hb) (fun y hy=>?_) (by unfold maxLen;omega) (by omega) hbase ?_
 · rcases List.mem_cons.1 hy with rfl|hy
   · exact hz
   · obtain rfl:=List.mem_singleton.1 hy;exact hu
 intro v' w' h1 h2 _ h4;obtain⟨g,cap,rfl,_⟩:=h1.form (Nat.succ_pos _);exact h _ cap w' h1 h2 h4
end Go.Proofs.YtlmkdmdbpopnhaaGreatDoor
