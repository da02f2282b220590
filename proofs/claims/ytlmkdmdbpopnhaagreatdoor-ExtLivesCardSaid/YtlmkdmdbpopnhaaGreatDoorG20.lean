/- Own. Conditions: in each theorem. -/
import Derived.Test.YtlmkdmdbpopnhaaGreatDoorG14
import Derived.Test.YtlmkdmdbpopnhaaGreatDoorG10
set_option maxHeartbeats 8000000
set_option maxRecDepth 100000
set_option linter.unusedVariables false
open Go.Proofs.Tryz
open Go.Lib (hid)
namespace Go.Proofs.YtlmkdmdbpopnhaaGreatDoor
open Go.RowKit
def ZfQ(w':World)(base:Nat)(A:Option Addr)(n c:Nat)(l:List Int):Prop:=w'.ownsRow base 5 1 (.slice A n c) n (l.map (Value.int .u8))/\Ze l
section
variable{w w':World}{base base' n c:Nat}{A:Option Addr}{l:List Int}
theorem ZfQ.rb(h:ZfQ w base A n c l):RB w w.heap.size A n l:=RB.of_own h.1 h.2
theorem ZfQ.nil_(w:World)(base:Nat):ZfQ w base none 0 0 []:=⟨⟨rfl,.inl ⟨rfl,rfl⟩⟩,Ze.nil⟩
theorem ZfQ.base_le(h:ZfQ w base A n c l)(hb:base'<=base):ZfQ w base' A n c l:=⟨ZaU h.1 hb,h.2⟩
theorem ZfQ.made{g:Nat}(h:w.ownsRow base 5 1 (.slice (some ⟨g,0,none⟩) n n) n (madeCells (Value.int .u8 0).cells (n*1)).toList):ZfQ w base (some ⟨g,0,none⟩) n n (zeros n):=by
 refine⟨?_,ZgH n⟩;rw[show(Value.int .u8 0).cells = #[Value.int .u8 0]from rfl,toList_madeCells_one,Nat.mul_one]at h;rw[zeros,List.map_replicate];exact h
end
def ZnO:Prop:=∀(A:Option Addr) (n c B:Nat) (l:List Int) (w:World),RB w B A n l->B<=w.heap.size->n<=c->n<=140737488355000->Tab w->1<w.heap.size->
 Calls prog 87 #[.slice A n c] w fun e w'=>∃A' n' c',e=.returned (.tuple #[.int .i64 (Zd l).1,.int .i64 (Zd l).2.1,.slice A' n' c',.int .i64 (Zd l).2.2.2])/\n'<=c'/\ZfQ w' w.heap.size A' n' c' (Zd l).2.2.1/\Below w.heap.size w w'
theorem Zky(A:Option Addr)(c B:Nat)(l:List Int)(w:World)(hr:RB w B A 256 l)(hB:B<=w.heap.size)(hc:256<=c)(ht:Tab w)(hg:1<w.heap.size) :
 Calls prog 87 #[.slice A 256 c] w fun e w'=>∃A' n' c',e=.returned (.tuple #[.int .i64 (Zd l).1,.int .i64 (Zd l).2.1,.slice A' n' c',.int .i64 (Zd l).2.2.2])/\n'<=c'/\ZfQ w' w.heap.size A' n' c' (Zd l).2.2.1/\Below w.heap.size w w':=by
 have hl:=hr.len;obtain⟨bd,hd⟩:∃bd,bd=decide (l.take 4=Zr (Zdx (l.drop 4):Int) 4):=⟨_,rfl⟩
 have HD:=hid hd;clear hd;obtain⟨b,off,rfl,hb,hcell⟩:=hr.at_ (by omega);have hr0:RB w B (some ⟨b,off,none⟩) 4 (l.take 4):=⟨by simp;omega,hr.bytes.take 4,fun _=>⟨b,off,rfl,hb,fun j hj=>by rw[hcell j (by omega),List.getElem?_take,if_pos hj]⟩⟩
 have hr4:RB w B (some ⟨b,off+4,none⟩) 252 (l.drop 4):=hr.cut hcell 4 (by omega) hb;have ht1:Tab w.drew:=ht;have hr0d:RB w.drew B (some ⟨b,off,none⟩) 4 (l.take 4):=hr0.drew;have hr4d:RB w.drew B (some ⟨b,off+4,none⟩) 252 (l.drop 4):=hr4.drew;have hBd:B<=w.drew.heap.size:=hB;have hBel:=hid ((Below.refl w.heap.size w).drew);have hr16:RB w B (some ⟨b,off+16,none⟩) 240 (l.drop 16):=hr.cut hcell 16 (by omega) hb;have HR:=hid hr;have HR16:=hid hr16;have HST:=hid (ZhD hr.bytes hl);clear hcell hr0 hr4 hr ht hr16;go_enter func87,ntmps87;go_wp2_with fail
 go_cut [21]from 10 (fun c wx=>c=.bool (!bd)/\Below w.heap.size w wx)
 case first=>
  have hc4:¬(c=4):=by omega
  go_region_with
   (first
    | (go_at_call 142;refine(ZlQ _ _ _ _ _ _ hr4d (by decide) ht1).mono ?_;rintro e w1 ⟨A1,c1,rfl,hr1,hb1⟩;have hr01:=hr0d.below (hb1.mono hBd);have hB1:=ZZf hBd hb1.size)
    | (go_at_call 141;refine(ZhB _ _ hr01 hr1 (by decide) (by decide) hB1 (ZZe _)).mono ?_;rw[<-HD.out];rintro e w2 ⟨rfl,hb2⟩;have hb02:=hid (hBel.out.trans (hb1.trans (hb2.mono hb1.size)));clear hb1 hb2 hr01 hr1))
  all_goals (go_wp2;go_meet;(case rel=>exact⟨rfl,hb02.out⟩))
 case rest=>
  obtain⟨rfl,hbw⟩:=hcut;have hrc:=HR.out.below (hbw.mono hB);have hr16c:=HR16.out.below (hbw.mono hB);have hBc:=ZZf hB hbw.size;have HBW:=hid hbw;clear hr0d hr4d ht1 hBd hBel hbw HR16;cases bd
  · have hne:Zd l=(0,0,[],4):=by
     unfold Zd;rw[if_neg];rintro⟨_,h,_⟩;exact absurd (HST.out.2 h) (of_decide_eq_false HD.out.symm)
    have HN:=hid hne;clear hne hrc hr16c;go_wp2;exact bodyPost_ret (v:=.tuple #[.int .i64 0,.int .i64 0,.slice none 0 0,.int .i64 4]) (by simp[results,Tryz.results87,go_sem]) rfl (by rw[HN.out];exact⟨none,0,0,rfl,ZZe _,ZfQ.nil_ _ _,HBW.out⟩)
  · have hsum:=HST.out.1 (of_decide_eq_true HD.out.symm);have G2:=hid (ZgG (l:=l) 4 4 (by decide) (by omega));have G3:=hid (ZgG (l:=l) 8 8 (by decide) (by omega));obtain⟨sb,hsb⟩:∃sb,sb=Zey (numOf ((l.drop 4).take 4)) (numOf ((l.drop 8).take 8)):=⟨_,rfl⟩
    have HS:=hid hsb
    have hres:Zd l=if sb=true then(numOf ((l.drop 4).take 4),numOf ((l.drop 8).take 8),l.drop 16,0)else(0,0,[],4):=by
     unfold Zd;by_cases e:sb=true
     · rw[if_pos e,if_pos ⟨hl,hsum,by rw[<-hsb];exact e⟩]
     · rw[if_neg e,if_neg (fun h=>e (by rw[hsb];exact h.2.2))]
    clear hsb hsum HST HD HR;cases sb
    · have HN:=hid (hres.trans (if_neg (by decide)));clear hres;go_wp2_with fail;refine(Zb7 _ _ _ _ _ 4 4 _ hrc hc (by decide)).mono ?_;rw[show getR l 4 4=(numOf ((l.drop 4).take 4),0)from G2.out];rintro e w1⟨rfl,rfl⟩;go_wp2_with fail;refine(Zb7 _ _ _ _ _ 8 8 _ hrc hc (by decide)).mono ?_;rw[show getR l 8 8=(numOf ((l.drop 8).take 8),0)from G3.out];rintro e w1⟨rfl,rfl⟩;go_wp2_with fail;refine(Zau _ _ _).mono ?_;rw[<-HS.out];rintro e w1⟨rfl,rfl⟩;go_wp2;exact bodyPost_ret (v:=.tuple #[.int .i64 0,.int .i64 0,.slice none 0 0,.int .i64 4]) (by simp[results,Tryz.results87,go_sem]) rfl (by rw[HN.out];exact⟨none,0,0,rfl,ZZe _,ZfQ.nil_ _ _,HBW.out⟩)
    · have HN:=hid (hres.trans (if_pos rfl));clear hres;go_wp2_with fail;refine(Zb7 _ _ _ _ _ 4 4 _ hrc hc (by decide)).mono ?_;rw[show getR l 4 4=(numOf ((l.drop 4).take 4),0)from G2.out];rintro e w1⟨rfl,rfl⟩;go_wp2_with fail;refine(Zb7 _ _ _ _ _ 8 8 _ hrc hc (by decide)).mono ?_;rw[show getR l 8 8=(numOf ((l.drop 8).take 8),0)from G3.out];rintro e w1⟨rfl,rfl⟩;go_wp2_with fail;refine(Zau _ _ _).mono ?_;rw[<-HS.out];rintro e w1⟨rfl,rfl⟩;go_wp2_with fail;refine(Zbr _ hr16c hBc (by decide)).mono ?_;rintro e w2⟨A2,c2,rfl,hc2,ho2,hb2⟩;have hr2:ZfQ w2 w.heap.size A2 240 c2 (l.drop 16):=⟨ZaU ho2 HBW.out.size,hr16c.bytes⟩
      clear ho2;go_wp2;exact bodyPost_ret (v:=.tuple #[.int .i64 (numOf ((l.drop 4).take 4)),.int .i64 (numOf ((l.drop 8).take 8)),.slice A2 240 c2,.int .i64 0]) (by simp[results,Tryz.results87,go_sem]) rfl (by rw[HN.out];exact⟨A2,240,c2,rfl,hc2,hr2,HBW.out.trans (hb2.mono HBW.out.size)⟩)
theorem Zmq:ZnO:=by
 intro A n c B l w hr hB hc hn ht hg;by_cases h:n=256
 · subst h;exact Zky A c B l w hr hB hc ht hg
 · refine(ZhE A n c w (by unfold maxLen;omega) h).mono ?_
   have hne:Zd l=(0,0,[],4):=by
    unfold Zd;rw[if_neg];rintro⟨h',_⟩;exact h (by rw[<-hr.len];exact h')
   rw[hne];rintro e w'⟨rfl,hb⟩;exact⟨none,0,0,rfl,ZZe _,ZfQ.nil_ _ _,hb⟩
section
variable{D:World->(Nat->Prop)->Addr->DS->Prop}{w w':World}{F O:Nat->Prop}{p:Addr}{S:DS}{q r b:Nat}{seq:Int}{L:List (Int×List Int)}
theorem Zpa(api:Zb D)(h:D w F p S)(hq:Zdq w q p seq)(ht:Zdf w F)(pg:Int)(hpg : -9223372036854775808<=pg/\pg<=9223372036854775807):Calls prog 113 #[.pointer (some ⟨q,0,none⟩),.int .i64 pg] w fun e w'=>∃A n c,e=.returned (.tuple #[.slice A n c,.int .i64 (Za9 S pg).2])/\n<=c/\ZfQ w' w.heap.size A n c (Za9 S pg).1/\Below w.heap.size w w':=by
 obtain⟨i0,hi,hz0,hz1,hz2⟩:=info_parts Zbg;obtain⟨l0,l1,l2,l3⟩:=hq.cells;have hok:=api.ok _ _ _ _ h;have hsz:=hok.size;have hpb:=Zm (S.n:Int);have hpn:=(ZN (S.n:Int)).2.1 (by omega);have hP:S.P=pagesOf S.n:=rfl;have HM:=hid (ZfY hq);have HS:=hid (api.sizes _ _ _ _ h);have HT:=hid ht;have HUP:=hid Zmq;have HHM:=hid (fun w1=>ZbH.home (S.n:Int) pg w1 (by omega) hpg);have HRD:=hid (fun w1 (hb:Below w.heap.size w w1)=>api.read (pg+1+pagesOf S.n) w1 F p S (api.below h hb));by_cases hr:pg<0∨pg≥pagesOf S.n
 · have hL:Za9 S pg=([],1):=by unfold Za9;rw[hP,if_pos hr]
   have hh:ZaL (S.n:Int) pg=(0,false):=by unfold ZaL;rw[if_pos hr]
   rw[hh]at HHM;rw[hL];clear hL hh hr h hq ht hok;go_enter func113,ntmps113;go_wp2_with fail;refine HM.out.mono ?_;rintro e w1⟨rfl,rfl⟩;go_wp2_with fail;refine HS.out.mono ?_;rintro e w1⟨rfl,hb1⟩;have l0:=(hb1.cell (p:=⟨q,0,none⟩) l3).trans l0;go_wp2_with fail;refine(HHM.out w1).mono ?_;rintro e w2⟨rfl,rfl⟩;go_wp2;go_ret2;exact⟨none,0,0,rfl,ZZe _,ZfQ.nil_ _ _,hb1⟩
 have hh:ZaL (S.n:Int) pg=(pg+1+pagesOf S.n,true):=by unfold ZaL;rw[if_neg hr]
 rw[hh]at HHM;by_cases hd:S.down=true
 · have hL:Za9 S pg=([],5):=by unfold Za9;rw[hP,if_neg hr,if_pos hd]
   have hre:S.readE (pg+1+pagesOf S.n)=5:=by simp[DS.readE,hd]
   have hrl:S.readL (pg+1+pagesOf S.n) = []:=by simp[DS.readL,hre]
   rw[hre,hrl]at HRD;rw[hL];clear hL hh hr h hq ht hok hre hrl hd;go_enter func113,ntmps113;go_wp2_with fail;refine HM.out.mono ?_;rintro e w1⟨rfl,rfl⟩;go_wp2_with fail;refine HS.out.mono ?_;rintro e w1⟨rfl,hb1⟩;have l0:=(hb1.cell (p:=⟨q,0,none⟩) l3).trans l0;go_wp2_with fail;refine(HHM.out w1).mono ?_;rintro e w2⟨rfl,rfl⟩;go_wp2_with fail;refine(HRD.out w1 hb1).mono ?_;rintro e w3⟨A3,n3,c3,rfl,hc3,hr3,hb3⟩;have hb03:=hb1.trans (hb3.mono hb1.size);have ht3:=HT.out.below hb03;have HB:=hid hb03;clear hb03 ht3;go_wp2;go_ret2;exact⟨none,0,0,rfl,ZZe _,ZfQ.nil_ _ _,HB.out⟩
 have hd':S.down=false:=by simpa using hd
 obtain⟨a,ha⟩:=Int.eq_ofNat_of_zero_le (show 0<=pg+1+pagesOf S.n by omega)
 have hre:S.readE (pg+1+pagesOf S.n)=0:=by
  unfold DS.readE;rw[if_neg (by simp[hd']),if_pos (show S.has _ from⟨by omega,by omega⟩)]
 have hrl:S.readL (pg+1+pagesOf S.n)=S.last a:=by
  unfold DS.readL;rw[if_pos hre,ha,Int.toNat_natCast]
 rw[hre,hrl]at HRD;have hbytes:=hok.lastBytes a;have HLN:=hid hbytes.1
 have hL:Za9 S pg=if(Zd (S.last a)).2.2.2≠0∨(Zd (S.last a)).1≠pg then(ZH,0)else((Zd (S.last a)).2.2.1,0):=by
  unfold Za9;rw[hP,if_neg hr,if_neg hd,ha,Int.toNat_natCast]
 have HL:=hid hL;clear hL hh hr h hq ht hok hre hrl hd hd' ha hbytes;generalize hpge:(Zd (S.last a)).1=pe at HL;generalize her:(Zd (S.last a)).2.2.2=er at HL;have HPE:=hid (ZZg hpge her);clear hpge her;by_cases h1:er=0
 · subst h1;by_cases h2:pe=pg
   · subst h2;have k2:(pe == pe)=true:=by simp
     have HL2:=hid (HL.out.trans (if_neg (by simp)));go_enter func113,ntmps113;go_wp2_with fail;refine HM.out.mono ?_;rintro e w1⟨rfl,rfl⟩;go_wp2_with fail;refine HS.out.mono ?_;rintro e w1⟨rfl,hb1⟩;have l0:=(hb1.cell (p:=⟨q,0,none⟩) l3).trans l0;go_wp2_with fail;refine(HHM.out w1).mono ?_;rintro e w2⟨rfl,rfl⟩;go_wp2_with fail;refine(HRD.out w1 hb1).mono ?_;rintro e w3⟨A3,n3,c3,rfl,hc3,hr3,hb3⟩;have hb03:=hb1.trans (hb3.mono hb1.size);have ht3:=HT.out.below hb03;go_wp2_with fail;refine(HUP.out A3 n3 c3 _ _ w3 hr3 (ZZe _) hc3 (by have:=hr3.len;rw[HLN.out]at this;omega) ht3.tab ht3.lt).mono ?_;rw[HPE.out.1,HPE.out.2];rintro e w4⟨A4,n4,c4,rfl,hc4,hr4,hb4⟩;have hb04:=hb03.trans (hb4.mono hb03.size);have hr4:=hr4.base_le hb03.size;have HF:=hid (ZZg hc4 (ZZg hr4 hb04));clear hc4 hr4 hb4 hb04 hr3 hb3 hb03 ht3;go_wp2;go_ret2;rw[HL2.out];exact⟨_,_,_,rfl,HF.out⟩
   · have k2:(pe == pg)=false:=by simpa using h2
     have HL2:=hid (HL.out.trans (if_pos (.inr h2)));clear h2;go_enter func113,ntmps113;go_wp2_with fail;refine HM.out.mono ?_;rintro e w1⟨rfl,rfl⟩;go_wp2_with fail;refine HS.out.mono ?_;rintro e w1⟨rfl,hb1⟩;have l0:=(hb1.cell (p:=⟨q,0,none⟩) l3).trans l0;go_wp2_with fail;refine(HHM.out w1).mono ?_;rintro e w2⟨rfl,rfl⟩;go_wp2_with fail;refine(HRD.out w1 hb1).mono ?_;rintro e w3⟨A3,n3,c3,rfl,hc3,hr3,hb3⟩;have hb03:=hb1.trans (hb3.mono hb1.size);have ht3:=HT.out.below hb03;go_wp2_with fail;refine(HUP.out A3 n3 c3 _ _ w3 hr3 (ZZe _) hc3 (by have:=hr3.len;rw[HLN.out]at this;omega) ht3.tab ht3.lt).mono ?_;rw[HPE.out.1,HPE.out.2];rintro e w4⟨A4,n4,c4,rfl,hc4,hr4,hb4⟩;have hb04:=hb03.trans (hb4.mono hb03.size);clear hc4 hr4 hb4 hr3 hb3 hb03 ht3
     go_wp2_with (refine wpList_make_full w4 rfl _ _ 55 rfl w4.heap.size 5 i0 (.int .u8 0) 1 underlying55 hi hz0 hz1 .i64 .i64 _ _ 240 rfl rfl rfl rfl (by rw[hz2];decide) (by decide) (ZZe _) ?_;intro w5 hown5 hg5;have hb5:Below w4.heap.size w4 w5:=(Below.refl _ _).grown hg5 (ZZe _) (by simp);have hr5:ZfQ w5 w.heap.size _ 240 240 ZH:=(ZfQ.made hown5).base_le hb04.size;have HF:=hid (ZZg hr5 (hb04.trans (hb5.mono hb04.size)));clear hown5 hg5 hb5 hr5)
     go_ret2;rw[HL2.out];exact⟨_,240,240,rfl,ZZe _,HF.out⟩
 · have k1:(er == 0)=false:=by simpa using h1
   have HL2:=hid (HL.out.trans (if_pos (.inl h1)));clear h1;go_enter func113,ntmps113;go_wp2_with fail;refine HM.out.mono ?_;rintro e w1⟨rfl,rfl⟩;go_wp2_with fail;refine HS.out.mono ?_;rintro e w1⟨rfl,hb1⟩;have l0:=(hb1.cell (p:=⟨q,0,none⟩) l3).trans l0;go_wp2_with fail;refine(HHM.out w1).mono ?_;rintro e w2⟨rfl,rfl⟩;go_wp2_with fail;refine(HRD.out w1 hb1).mono ?_;rintro e w3⟨A3,n3,c3,rfl,hc3,hr3,hb3⟩;have hb03:=hb1.trans (hb3.mono hb1.size);have ht3:=HT.out.below hb03;go_wp2_with fail;refine(HUP.out A3 n3 c3 _ _ w3 hr3 (ZZe _) hc3 (by have:=hr3.len;rw[HLN.out]at this;omega) ht3.tab ht3.lt).mono ?_;rw[HPE.out.1,HPE.out.2];rintro e w4⟨A4,n4,c4,rfl,hc4,hr4,hb4⟩;have hb04:=hb03.trans (hb4.mono hb03.size);clear hc4 hr4 hb4 hr3 hb3 hb03 ht3
   go_wp2_with (refine wpList_make_full w4 rfl _ _ 55 rfl w4.heap.size 5 i0 (.int .u8 0) 1 underlying55 hi hz0 hz1 .i64 .i64 _ _ 240 rfl rfl rfl rfl (by rw[hz2];decide) (by decide) (ZZe _) ?_;intro w5 hown5 hg5;have hb5:Below w4.heap.size w4 w5:=(Below.refl _ _).grown hg5 (ZZe _) (by simp);have hr5:ZfQ w5 w.heap.size _ 240 240 ZH:=(ZfQ.made hown5).base_le hb04.size;have HF:=hid (ZZg hr5 (hb04.trans (hb5.mono hb04.size)));clear hown5 hg5 hb5 hr5)
   go_ret2;rw[HL2.out];exact⟨_,240,240,rfl,ZZe _,HF.out⟩
theorem Zpb(api:Zb D)(h:ZaN D w F O p S q seq r b L)(ht:Zdf w F)(i:Int)(hi : -9223372036854775808<=i/\i<=9223372036854775807):Calls prog 58 #[.pointer (some ⟨r,0,none⟩),.int .i64 i] w fun e w'=>∃A n c,e=.returned (.tuple #[.slice A n c,.int .i64 (Zn S L i).2])/\n<=c/\ZfQ w' w.heap.size A n c (Zn S L i).1/\Below w.heap.size w w':=by
 obtain⟨l0,l1,l2⟩:=h.cells;have HM:=hid (Zb9 h);obtain⟨f,hf,hset⟩:=h.set;have HLD:=hid (Zpa api h.d h.log ht i hi);have q1:=hf.look underlying125 (Za2 w) hi
 cases ha:atL L i with
 | none=>
  have hg:Zn S L i=Za9 S i:=by unfold Zn;rw[ha]
  rw[(hset i).1 ha]at q1;simp only[Option.getD_none,Option.isSome_none]at q1;rw[hg];clear hg ha hset hf h ht;go_enter func58,ntmps58;go_wp2_with fail;refine HM.out.mono ?_;rintro e w1⟨rfl,rfl⟩;go_wp2_with fail;refine HLD.out.mono ?_;rintro e w1⟨A,n,c,rfl,hc,hr,hb⟩;have HE:=hid (ZZg hr hb);clear hr hb;go_wp2;go_ret2;exact⟨_,_,_,rfl,hc,HE.out.1,HE.out.2⟩
 | some l=>
  have hg:Zn S L i=(l,0):=by unfold Zn;rw[ha]
  obtain⟨g,c,e1,hc,hr,_⟩:=(hset i).2 l ha;rw[e1]at q1;simp only[Option.getD_some,Option.isSome_some]at q1;have HCL:=hid (Zbr c hr (ZZe _) (by decide));have HBY:=hid hr.bytes;rw[hg];clear hg ha hset hf h ht hr e1;go_enter func58,ntmps58;go_wp2_with fail;refine HM.out.mono ?_;rintro e w1⟨rfl,rfl⟩;go_wp2_with fail;refine HCL.out.mono ?_;rintro e w1⟨A,c1,rfl,hc1,hr,hb⟩;have hr:ZfQ w1 w.heap.size A 240 c1 l:=⟨hr,HBY.out⟩
  have HE:=hid (ZZg hr hb);clear hr hb;go_wp2;go_ret2;exact⟨_,_,_,rfl,hc1,HE.out.1,HE.out.2⟩
end
end Go.Proofs.YtlmkdmdbpopnhaaGreatDoor
