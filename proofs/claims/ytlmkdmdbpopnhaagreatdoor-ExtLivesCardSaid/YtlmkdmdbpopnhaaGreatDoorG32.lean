/- ExtS, ExtV, ExtU, ExtW, ExtX, ExtY. Conditions: in each theorem. -/
import Derived.Test.YtlmkdmdbpopnhaaGreatDoorG30
import Derived.Test.YtlmkdmdbpopnhaaGreatDoorG31
import Derived.Test.YtlmkdmdbpopnhaaGreatDoorG23
import Derived.Deep.RegionHeld3
set_option maxHeartbeats 3200000
set_option maxRecDepth 100000
set_option linter.unusedVariables false
open Go.Proofs.Tryz
open Go.Lib (hid)
namespace Go.Proofs.YtlmkdmdbpopnhaaGreatDoor
open Go.RowKit
def ZcA(M M':MV)(ss:List Stp):List Stp:=if Zgh M M'=true then ss else ss++[.lay 0 (ZM M')]
section
variable{D:World->(Nat->Prop)->Addr->DS->Prop}{w0 w w':World}{F O:Nat->Prop}{p:Addr}{S:DS}{q r b st ch mb:Nat}{seq:Int}{L:List (Int×List Int)}{M M':MV}{v v' sv:Value}{ns:Nat}{SL:Int->Option Int}{fs:List Value}{ss:List Stp}
theorem Did.base{L':List (Int×List Int)}(hb:Below w0.heap.size w0 w)(h:Did D w F O p S q seq r b L' w'):Did D w0 F O p S q seq r b L' w':=by
 obtain⟨O',h1,h2,h3⟩:=h
 exact⟨O',h1,⟨h2.os.trans hb.os,h2.tape.trans hb.tape,h2.output.trans hb.output,ZZf hb.size h2.size,fun k hk hn=>(h2.block k (ZZd hk hb.size) hn).trans (hb.block k hk)⟩,fun k hk=>by
  rcases h3 k hk with a|a
  · exact .inl a
  · exact .inr (ZZf hb.size a)⟩
theorem ZcT.cells2{d f n c d' f' n' c':Int}(h:ZcT w ch st d f n c v d' f' n' c' v' mb sv):w.cell? ⟨ch,1,none⟩=some (.int .i64 d)/\w.cell? ⟨ch,2,none⟩=some (.int .i64 f)/\w.cell? ⟨ch,3,none⟩=some (.int .i64 n)/\w.cell? ⟨ch,4,none⟩=some (.int .i64 c)/\w.cell? ⟨ch,5,none⟩=some v/\w.cell? ⟨ch,6,none⟩=some (.int .i64 d')/\w.cell? ⟨ch,7,none⟩=some (.int .i64 f')/\w.cell? ⟨ch,8,none⟩=some (.int .i64 n')/\w.cell? ⟨ch,9,none⟩=some (.int .i64 c')/\w.cell? ⟨ch,10,none⟩=some v'/\w.cell? ⟨ch,12,none⟩=some sv:=by
 refine⟨?_,?_,?_,?_,?_,?_,?_,?_,?_,?_,?_⟩ <;> (rw[cell_of_row w ch _ _ _ (0,0) h];rfl)
theorem ZF.ri(h:ZF w0 w ch st mb M M' v v' sv ns SL fs ss):∃A c,v'=.slice A M'.l.length c/\M'.l.length<=c/\RI w w.heap.size A M'.l.length M'.l:=by
 obtain⟨A,c,e,hc⟩:=Zat h.will;exact⟨A,c,e,hc,(RI.of_own (by rw[<-e];exact h.will) h.ints).1⟩
theorem ZF.slc(h:ZF w0 w ch st mb M M' v v' sv ns SL fs ss):∃A n c,sv=.slice A n c:=by
 rcases h.row.2 with ⟨e,_⟩|⟨g,cap,cur,e,_⟩
 · exact⟨_,_,_,e⟩
 · exact⟨_,_,_,e⟩
theorem Zjb(api:Zb D)(hS:SAt D w0 F O p S q seq r b st L)(h:ZF w0 w ch st mb M M' v v' sv ns SL fs ss)(hL:Ziz S)(hO:∀k,O k->k<w0.heap.size)(hOt:¬O 1)(hok:okS S M' L ss) :
 Calls prog 92 #[sv] w fun e w'=>e=.returned (.int .i64 0)/\Did D w0 F O p S q seq r b (runS S M' L ss) w':=by
 obtain⟨A,n,c,e⟩:=h.slc;refine(Zpo api (hS.below api h.bel) h hL hO hOt hok e).mono ?_;rintro e w'⟨h1,h2⟩;exact⟨h1,h2.base h.bel⟩
theorem ZeE(api:Zb D)(hS:SAt D w0 F O p S q seq r b st L)(h:ZF w0 w ch st mb M M' v v' sv ns SL fs ss)(hL:Ziz S)(hO:∀k,O k->k<w0.heap.size)(hOt:¬O 1)(hN:(-9223372036854775808<=M'.d/\M'.d<=9223372036854775807)/\(-9223372036854775808<=M'.f/\M'.f<=9223372036854775807)/\(-9223372036854775808<=M'.n/\M'.n<=9223372036854775807)/\(-9223372036854775808<=M'.c/\M'.c<=9223372036854775807))(hmay:Zft M'=true)(hm:fs.length+1<=4000000)(hok:okS S M' L (ZcA M M' ss)) :
 Calls prog 98 #[.pointer (some ⟨ch,0,none⟩)] w fun e w'=>e=.returned (.int .i64 0)/\Did D w0 F O p S q seq r b (runS S M' L (ZcA M M' ss)) w':=by
 obtain⟨A,k,c,rfl,hkc,hk1,hri⟩:=h.was;obtain⟨A',c',rfl,hc',hri'⟩:=h.ri;have hfew:=h.few;have hd:Below w.heap.size w w.drew:=(Below.refl _ _).drew;have HSAME:=hid (Zph (w:=w.drew) (cap:=c) (cap':=c') M.d M.f M.n M.c M'.d M'.f M'.n M'.c (((hri.below h.bel).more h.bel.size).below hd) (hri'.below hd) (ZZe _) (by unfold maxLen;omega) (by unfold maxLen;omega));obtain⟨x1,x2,x3,x4,x5,x6,x7,x8,x9,x10,x12⟩:=h.at_.cells2;have HC:=hid (fun w2 (hb:Below w.drew.heap.size w.drew w2)=>(h.keep (hd.trans hb)).at_.cells2);have HG:=hid (fun w2 (hb:Below w.drew.heap.size w.drew w2)=>h.keep (hd.trans hb))
 unfold ZcA at hok ⊢
 show Calls prog 98 #[.pointer (some ⟨ch,0,none⟩)] w fun e w'=>e=.returned (.int .i64 0)/\Did D w0 F O p S q seq r b (runS S M' L (if Zgh M M'=true then ss else ss++[.lay 0 (ZM M')])) w'
 have HSAME2:Hid (Calls prog 158 #[.agg #[.int .i64 M.d,.int .i64 M.f,.int .i64 M.n,.int .i64 M.c,.slice A k c],.agg #[.int .i64 M'.d,.int .i64 M'.f,.int .i64 M'.n,.int .i64 M'.c,.slice A' M'.l.length c']] w.drew fun e w'=>e=.returned (.bool (Zgh M M'))/\Below w.drew.heap.size w.drew w'):=HSAME;clear HSAME
 cases hsm:Zgh M M' with
 | true=>
  rw[hsm]at HSAME2 hok;have HIT:=hid (fun w2 (hb:Below w.drew.heap.size w.drew w2)=>Zjb api hS (h.keep (hd.trans hb)) hL hO hOt hok);clear h hri hri' hok hS hL hO hOt hmay HG hN;go_enter func98,ntmps98;go_wp2_with fail
  go_region_held3 (fun W=>W.cell? ⟨ch,1,none⟩=some (.int .i64 M.d)/\W.cell? ⟨ch,2,none⟩=some (.int .i64 M.f)/\W.cell? ⟨ch,3,none⟩=some (.int .i64 M.n)/\W.cell? ⟨ch,4,none⟩=some (.int .i64 M.c)/\W.cell? ⟨ch,5,none⟩=some (.slice A k c)/\W.cell? ⟨ch,6,none⟩=some (.int .i64 M'.d)/\W.cell? ⟨ch,7,none⟩=some (.int .i64 M'.f)/\W.cell? ⟨ch,8,none⟩=some (.int .i64 M'.n)/\W.cell? ⟨ch,9,none⟩=some (.int .i64 M'.c)/\W.cell? ⟨ch,10,none⟩=some (.slice A' M'.l.length c')/\W.cell? ⟨ch,12,none⟩=some sv)
   (first|with_reducible exact z2|exact⟨x1,x2,x3,x4,x5,x6,x7,x8,x9,x10,x12⟩)
   (first
    | (go_at_call 158;refine HSAME2.out.mono ?_;rintro e w2 ⟨rfl,hb2⟩;have z2:=HC.out w2 hb2))
  all_goals
   have HIT2:=hid (HIT.out w2 hb2);obtain⟨_,_,_,_,_,_,_,_,_,_,y12⟩:=z2;clear HIT HC hb2 HSAME2;go_wp2_with fail;refine HIT2.out.mono ?_;rintro e w3⟨rfl,h3⟩;have HE:=hid h3;clear h3;go_wp2;go_ret;exact⟨rfl,HE.out⟩
 | false=>
  rw[hsm]at HSAME2 hok;have HOK:=hid (ZZg hok (ZZg hO (ZZg hOt (ZZg hL hS))));have HPM:=hid (show Ziy M'=(ZM M',0) by unfold Ziy;rw[if_pos hmay]);have HML:=hid (ZaE (m:=M') (by have:=(ZeZ hmay).2.1.2;omega));have HN:=hid hN;clear h hri hri' hok hS hL hO hOt hmay hN;go_enter func98,ntmps98;go_wp2_with fail
  go_region_held3 (fun W=>W.cell? ⟨ch,1,none⟩=some (.int .i64 M.d)/\W.cell? ⟨ch,2,none⟩=some (.int .i64 M.f)/\W.cell? ⟨ch,3,none⟩=some (.int .i64 M.n)/\W.cell? ⟨ch,4,none⟩=some (.int .i64 M.c)/\W.cell? ⟨ch,5,none⟩=some (.slice A k c)/\W.cell? ⟨ch,6,none⟩=some (.int .i64 M'.d)/\W.cell? ⟨ch,7,none⟩=some (.int .i64 M'.f)/\W.cell? ⟨ch,8,none⟩=some (.int .i64 M'.n)/\W.cell? ⟨ch,9,none⟩=some (.int .i64 M'.c)/\W.cell? ⟨ch,10,none⟩=some (.slice A' M'.l.length c')/\W.cell? ⟨ch,12,none⟩=some sv)
   (first|with_reducible exact z2|exact⟨x1,x2,x3,x4,x5,x6,x7,x8,x9,x10,x12⟩)
   (first
    | (go_at_call 158;refine HSAME2.out.mono ?_;rintro e w2 ⟨rfl,hb2⟩;have z2:=HC.out w2 hb2))
  all_goals
   have HG2:=hid (HG.out w2 hb2);obtain⟨A2,c2,e2,hc2,hri2⟩:=HG2.out.ri;cases e2;obtain⟨n1,n2,n3,n4⟩:=HN.out;have HPUT:=hid (ZkI (cap:=c') M'.d M'.f M'.n M'.c hri2 (by unfold maxLen;omega) n1 n2 n3 n4);rw[show(⟨M'.d,M'.f,M'.n,M'.c,M'.l⟩:MV)=M' from rfl,HPM.out]at HPUT;obtain⟨_,_,_,_,_,y6,y7,y8,y9,y10,_⟩:=z2;clear HC hb2 HSAME2 hri2 HG x1 x2 x3 x4 x5 x6 x7 x8 x9 x10 x12 n1 n2 n3 n4;go_wp2_with fail;refine HPUT.out.mono ?_;rintro e w3⟨A3,k3,c3,rfl,hc3,hr3,hnew3,hb3⟩;have hG3:=HG2.out.keep hb3
   have HLAY:=hid (ZqB hG3 0 (by decide) hc3 (by rw[<-hr3.len,HML.out];decide) (Z:=0) (Nat.zero_le _) (fun _ _ _=>Nat.zero_le _) ⟨hr3,fun a ha hn hg=>by
    have h1:=hnew3 a ha;rcases hg with hg|hg
    · have h2:=(HG2.out.lt _ hg).2;omega
    · have:=HG2.out.bel.size
      omega⟩ hm)
   clear hr3 hnew3 hb3 hG3 HPUT y6 y7 y8 y9 y10;go_wp2_with fail;refine HLAY.out.mono ?_;rintro e w4⟨rfl,sv',f,hg,_⟩;obtain⟨k1,k2,k3,k4,k5⟩:=HOK.out;have HIT:=hid (Zjb api k5 hg k4 k2 k3 k1);obtain⟨_,_,_,_,_,_,_,_,_,_,y12⟩:=hg.at_.cells2;clear hg k1 k2 k3 k4 k5 HLAY;go_wp2_with fail;refine HIT.out.mono ?_;rintro e w5⟨rfl,h5⟩;have HE:=hid h5;clear h5;go_wp2;go_ret;exact⟨rfl,HE.out⟩
end
def Zcr(S:DS)(L:List (Int×List Int))(M:MV)(pg:Int)(M2:MV):Prop:=
 (M.f=0/\M.n<pagesOf S.n/\pg=M.n/\M2 = {M with n:=M.n+1})∨(M.f≠0/\∃nx,Zaz S L 0 1 [M.f] 0=(nx,0)/\pg=M.f/\M2 = {M with f:=nx})
section
variable{D:World->(Nat->Prop)->Addr->DS->Prop}{w0 w w':World}{F O:Nat->Prop}{p:Addr}{S:DS}{q r b st ch mb:Nat}{seq:Int}{L:List (Int×List Int)}{M M':MV}{v v' sv:Value}{ns:Nat}{SL:Int->Option Int}{fs:List Value}{ss:List Stp}
theorem Zjc(api:Zb D)(hS:SAt D w0 F O p S q seq r b st L)(h:ZF w0 w ch st mb M M' v v' sv ns SL fs ss)(hn:0<=M'.n/\M'.n<4611686018427387904)(hf : -9223372036854775808<=M'.f/\M'.f<=9223372036854775807){pg:Int}{M2:MV}(ht:Zcr S L M' pg M2) :
 Calls prog 95 #[.pointer (some ⟨ch,0,none⟩)] w fun e w'=>e=.returned (.tuple #[.int .i64 pg,.int .i64 0])/\ZF w0 w' ch st mb M M2 v v' sv ns SL fs ss/\ZZ w0.heap.size w.heap.size ch mb v' sv v' sv fs fs ss ss w w':=by
 have hS':=hS.below api h.bel;rcases ht with ⟨h0,h1,rfl,rfl⟩|⟨h0,nx,hnx,rfl,rfl⟩
 · have hat:=h.at_;rw[h0]at hat;refine(Zo1 api hS'.pg hat hS'.sto hn).mono ?_;rintro e w' (⟨e0,_⟩|⟨_,e1,e2⟩)
   · omega
   · exact⟨e1,e2 ▸ h.setNext (M'.n+1),e2 ▸ ZZ.cell h 8 (.int .i64 (M'.n+1))⟩
 · have hd:Below w.heap.size w w.drew:=(Below.refl _ _).drew;have HLK:=hid (Zlt M'.f hf w.drew);obtain⟨x0,_,x2,_⟩:=h.at_.cells;have x1:=hS'.sto.cell
   have HCB:=hid (show ∀w2,Below w.heap.size w w2->w2.cell? ⟨ch,0,none⟩=some (.pointer (some ⟨st,0,none⟩))/\w2.cell? ⟨st,0,none⟩=some (.pointer (some ⟨r,0,none⟩))from fun w2 hb=>
    ⟨(hb.cell (p:=⟨ch,0,none⟩) (World.block_lt_of_cell? _ _ x0)).trans x0,(hb.cell (p:=⟨st,0,none⟩) (World.block_lt_of_cell? _ _ x1)).trans x1⟩)
   have HDS:=hid (fun w2 (hb:Below w.heap.size w w2) {A:Option Addr} {c:Nat} (hr:RI w2 w2.heap.size A 1 [M'.f]) (hc:1<=c)=>ZeX api (hS'.below api hb).pg (hS'.below api hb).tab (hS'.below api hb).len 0 0 0 0 (cap:=c) 0 hr (ZZe _) hc (by decide));rw[hnx]at HDS;have HDB:=hid hd;have HG:=hid (fun w2 (hb:Below w.heap.size w w2)=>h.keep hb);have kf:decide (M'.f=0)=false:=by simpa using h0
   clear h hS hS' hnx hd;go_enter func95,ntmps95;go_wp2_with fail
   go_region_held3 (fun W=>W.cell? ⟨ch,0,none⟩=some (.pointer (some ⟨st,0,none⟩))/\W.cell? ⟨st,0,none⟩=some (.pointer (some ⟨r,0,none⟩)))
    (first|with_reducible exact z2|with_reducible exact z1|exact⟨x0,x1⟩)
    (first
     | (go_at_call 153;refine HLK.out.mono ?_;rintro e w1 ⟨A1,c1,rfl,hc1,hr1,hb1⟩;have hbw:=HDB.out.trans (hb1.mono HDB.out.size);have z1:=HCB.out w1 hbw;have HD1:=hid (HDS.out w1 hbw hr1 hc1))
     | (go_at_call 108;refine HD1.out.mono ?_;rintro e w2 ⟨rfl,hb2⟩;have hbz:=hbw.trans (hb2.mono hbw.size);have z2:=HCB.out w2 hbz))
   all_goals
    have hG2:=HG.out w2 hbz;have f7:=hG2.at_.frozen 7;have d7:=hG2.at_.cells.2.2.1;have HE:=hid (ZZg (hG2.setFree nx) ((ZZ.below (B:=w0.heap.size) (Z:=w.heap.size) (ch:=ch) (mb:=mb) (v':=v') (sv:=sv) (fs:=fs) (ss:=ss) hbz).trans (ZZ.cell hG2 7 (.int .i64 nx))));clear hG2 z1 z2 hr1 hb1 hb2 hbw hbz hc1;go_wp2;go_ret2;exact⟨rfl,HE.out.1,HE.out.2⟩
end
theorem Zrg{w:World}{base base' size n:Nat}{e:TypeId}{v:Value}{xs:List Value}(h:w.ownsRow base e size v n xs)(hb:base'<=base):w.ownsRow base' e size v n xs:=by
 refine⟨h.1,?_⟩;rcases h.2 with a|⟨g,cap,cur,a1,a2,a3⟩
 · exact .inl a
 · exact .inr ⟨g,cap,cur,a1,ZZf hb a2,a3⟩
theorem Za5{w:World}{st:Nat}{A:Option Addr}{k c:Nat}(M:MV)(hr:RI w w.heap.size A k M.l)(hk:k<=c)(hk2:k<=1000) :
 Calls prog 91 #[.pointer (some ⟨st,0,none⟩),.agg #[.int .i64 M.d,.int .i64 M.f,.int .i64 M.n,.int .i64 M.c,.slice A k c]] w fun e w'=>∃v',e=.returned (.pointer (some ⟨w.heap.size+2,0,none⟩))/\ZF w w' (w.heap.size+2) st (w.heap.size+1) M M (.slice A k c) v' (.slice none 0 0) 0 (fun _=>none) [] []:=by
 have hmk:=@run_makeMap prog;have hX:Below w.heap.size w (((w.alloc (.cells #[.int .i64 M.d,.int .i64 M.f,.int .i64 M.n,.int .i64 M.c,.slice A k c] 41)).alloc (.map #[] 0)).alloc (.cells #[.pointer (some ⟨st,0,none⟩),.int .i64 M.d,.int .i64 M.f,.int .i64 M.n,.int .i64 M.c,.slice A k c,.int .i64 M.d,.int .i64 M.f,.int .i64 M.n,.int .i64 M.c,.slice A k c,.map (some (w.heap.size+1)),.slice none 0 0] 205)):=(((Below.refl _ _).alloc (ZZe _) _).alloc (by simp) _).alloc (by simp;omega) _;have HCL:=hid (Zmw (w:=((w.alloc (.cells #[.int .i64 M.d,.int .i64 M.f,.int .i64 M.n,.int .i64 M.c,.slice A k c] 41)).alloc (.map #[] 0)).alloc (.cells #[.pointer (some ⟨st,0,none⟩),.int .i64 M.d,.int .i64 M.f,.int .i64 M.n,.int .i64 M.c,.slice A k c,.int .i64 M.d,.int .i64 M.f,.int .i64 M.n,.int .i64 M.c,.slice A k c,.map (some (w.heap.size+1)),.slice none 0 0] 205)) c (hr.below hX) hX.size (by omega));obtain⟨z0,z1,z2,z3,z4,_⟩:=(ZiX.new w M.d M.f M.n M.c (.slice A k c)).cells
 have hcb:∀w2,Below ((((w.alloc (.cells #[.int .i64 M.d,.int .i64 M.f,.int .i64 M.n,.int .i64 M.c,.slice A k c] 41)).alloc (.map #[] 0)).alloc (.cells #[.pointer (some ⟨st,0,none⟩),.int .i64 M.d,.int .i64 M.f,.int .i64 M.n,.int .i64 M.c,.slice A k c,.int .i64 M.d,.int .i64 M.f,.int .i64 M.n,.int .i64 M.c,.slice A k c,.map (some (w.heap.size+1)),.slice none 0 0] 205))).heap.size (((w.alloc (.cells #[.int .i64 M.d,.int .i64 M.f,.int .i64 M.n,.int .i64 M.c,.slice A k c] 41)).alloc (.map #[] 0)).alloc (.cells #[.pointer (some ⟨st,0,none⟩),.int .i64 M.d,.int .i64 M.f,.int .i64 M.n,.int .i64 M.c,.slice A k c,.int .i64 M.d,.int .i64 M.f,.int .i64 M.n,.int .i64 M.c,.slice A k c,.map (some (w.heap.size+1)),.slice none 0 0] 205)) w2->
  Below w.heap.size w w2/\ZcT w2 (w.heap.size+1+1) st M.d M.f M.n M.c (.slice A k c) M.d M.f M.n M.c (.slice A k c) (w.heap.size+1) (.slice none 0 0)/\Zbl w2 (w.heap.size+1) 0 (fun _=>none):=by
  intro w2 hb2;have e1:(w.alloc (.cells #[.int .i64 M.d,.int .i64 M.f,.int .i64 M.n,.int .i64 M.c,.slice A k c] 41)).heap.size=w.heap.size+1:=by simp
  have e2:((w.alloc (.cells #[.int .i64 M.d,.int .i64 M.f,.int .i64 M.n,.int .i64 M.c,.slice A k c] 41)).alloc (.map #[] 0)).heap.size=w.heap.size+1+1:=by simp
  have hn:=heap_alloc_new ((w.alloc (.cells #[.int .i64 M.d,.int .i64 M.f,.int .i64 M.n,.int .i64 M.c,.slice A k c] 41)).alloc (.map #[] 0)) (.cells #[.pointer (some ⟨st,0,none⟩),.int .i64 M.d,.int .i64 M.f,.int .i64 M.n,.int .i64 M.c,.slice A k c,.int .i64 M.d,.int .i64 M.f,.int .i64 M.n,.int .i64 M.c,.slice A k c,.map (some (w.heap.size+1)),.slice none 0 0] 205);rw[e2]at hn;have hmm:=Zbl.made (w.alloc (.cells #[.int .i64 M.d,.int .i64 M.f,.int .i64 M.n,.int .i64 M.c,.slice A k c] 41));rw[e1]at hmm;have hmm2:=hmm.of_block (heap_alloc_old ((w.alloc (.cells #[.int .i64 M.d,.int .i64 M.f,.int .i64 M.n,.int .i64 M.c,.slice A k c] 41)).alloc (.map #[] 0)) (.cells #[.pointer (some ⟨st,0,none⟩),.int .i64 M.d,.int .i64 M.f,.int .i64 M.n,.int .i64 M.c,.slice A k c,.int .i64 M.d,.int .i64 M.f,.int .i64 M.n,.int .i64 M.c,.slice A k c,.map (some (w.heap.size+1)),.slice none 0 0] 205) (by rw[e2];omega));exact⟨hX.trans (hb2.mono hX.size),(hb2.block _ (ZZa.1 hn).1).trans hn,hmm2.of_block (hb2.block _ hmm2.lt)⟩
 have HCB:=hid hcb;have hsX:w.heap.size+1+1<(((w.alloc (.cells #[.int .i64 M.d,.int .i64 M.f,.int .i64 M.n,.int .i64 M.c,.slice A k c] 41)).alloc (.map #[] 0)).alloc (.cells #[.pointer (some ⟨st,0,none⟩),.int .i64 M.d,.int .i64 M.f,.int .i64 M.n,.int .i64 M.c,.slice A k c,.int .i64 M.d,.int .i64 M.f,.int .i64 M.n,.int .i64 M.c,.slice A k c,.map (some (w.heap.size+1)),.slice none 0 0] 205)).heap.size:=by simp
 have HSX:=hid hsX;have HXX:=hid (ZZg hX hr);clear hcb hsX hX hr;go_enter func91,ntmps91;go_wp2_with fail;refine HCL.out.mono ?_;rintro e w1⟨A',c',rfl,hc',hown,hb1⟩;obtain⟨hbw,hch,him⟩:=HCB.out w1 hb1;have f10:=hch.frozen 10;have d10:=hch.cells.2.2.2.2.2.1
 have hAn:A'=none∨∃g,A'=some ⟨g,0,none⟩/\w.heap.size+1+1<g:=by
  rcases hown.2 with ⟨e,_⟩|⟨g,cap,cur,e,hg,_⟩
  · cases e;exact .inl rfl
  · cases e;exact .inr ⟨g,rfl,ZZd HSX.out hg⟩
 have hkl:k=M.l.length:=HXX.out.2.len.symm
 have HE:=hid (show ZF w (w1.setCell ⟨w.heap.size+1+1,10,none⟩ (.slice A' k c')) (w.heap.size+2) st (w.heap.size+1) M M (.slice A k c) (.slice A' k c') (.slice none 0 0) 0 (fun _=>none) [] []from by
  have hne:∀j,j≠w.heap.size+1+1->(w1.setCell ⟨w.heap.size+1+1,10,none⟩ (.slice A' k c')).heap[j]?=w1.heap[j]?:=fun j hj=>Below.heap_setCell w1 ⟨w.heap.size+1+1,10,none⟩ (.slice A' k c') j hj
  refine⟨hch.setV _,by omega,by omega,by omega,⟨A,k,c,rfl,hk,hk2,HXX.out.2⟩,?_,HXX.out.2.2.1,by omega,World.ownsRow_nil _ _ _ _,by decide,rfl,fun i f s hf _=>(by cases hf),him.of_block (hne _ (by omega)),?_,⟨fun e=>(by cases e),fun e=>(by cases e)⟩,fun _ _ e=>(by cases e),hbw.setCell (p:=⟨w.heap.size+1+1,10,none⟩) (by show w.heap.size<=w.heap.size+1+1;omega) _⟩
  · rw[<-hkl];refine ZB (Zrg hown (ZZf (by omega) (Nat.le_of_lt HSX.out))) (fun g hg=>hne g (fun e=>?_));rcases hAn with h1|⟨g1,h1,h2⟩
    · rw[h1]at hg;cases hg
    · rw[h1]at hg;injection hg with hg;have hg:g1=g:=hg;omega
  · rcases hAn with h1|⟨g1,h1,h2⟩
    · rw[h1];exact⟨fun e=>(by cases e),fun e=>(by cases e)⟩
    · rw[h1]
      exact⟨fun e=>by injection e with e;have e:g1=w.heap.size+2:=e;omega,fun e=>by injection e with e;have e:g1=w.heap.size+1:=e;omega⟩)
 clear hkl hch him hbw hown hb1 hAn HCB HCL HXX HSX z0 z1 z2 z3 z4;go_wp2;go_ret;exact⟨_,rfl,HE.out⟩
inductive LenIs (S:DS) (L:List (Int×List Int)):MV->MV->List Stp->Prop
 | done {M:MV} (h:needD M.d<=M.l.length):LenIs S L M M []
 | more {M M1 M2:MV} {pg:Int} {ss:List Stp} (h:M.l.length<needD M.d) (hn:0<=M.n/\M.n<4611686018427387904) (hf : -9223372036854775808<=M.f/\M.f<=9223372036854775807) (ht:Zcr S L M pg M1) (hp : -9223372036854775808<=pg/\pg<=9223372036854775807) (hr:LenIs S L {M1 with l:=M1.l++[pg]} M2 ss):LenIs S L M M2 (.lay pg (Zcm 240 0)::ss)
theorem Zcr.same{S:DS}{L:List (Int×List Int)}{M M1:MV}{pg:Int}(h:Zcr S L M pg M1):M1.l=M.l/\M1.d=M.d/\M1.c=M.c:=by
 rcases h with ⟨_,_,_,rfl⟩|⟨_,_,_,_,rfl⟩
 · exact⟨rfl,rfl,rfl⟩
 · exact⟨rfl,rfl,rfl⟩
theorem Zpp(d:Int):needD d<=18:=by
 unfold needD
 have:ZA d<=10:=by unfold ZA;omega
 have h2:2^ZA d<=2^10:=Nat.pow_le_pow_right (by omega) this;have h3:(2:Nat)^10=1024:=by decide
 omega
section
variable{D:World->(Nat->Prop)->Addr->DS->Prop}{w0 w w':World}{F O:Nat->Prop}{p:Addr}{S:DS}{q r b st ch mb:Nat}{seq:Int}{L:List (Int×List Int)}{M M':MV}{v v' sv:Value}{ns:Nat}{SL:Int->Option Int}{fs:List Value}{ss:List Stp}
theorem Zn7(h:ZF w0 w ch st mb M M' v v' sv ns SL fs ss){pg:Int}(hp : -9223372036854775808<=pg/\pg<=9223372036854775807)(hl18:M'.l.length<=900){w4:World}{u:Value}{T:TypeId}(hown:w4.ownsRow w0.heap.size 3 1 u (M'.l.length+1) (M'.l.map (Value.int .i64)++[.int .i64 pg]))(hg:(w.alloc (.cells #[.int .i64 pg] T)).grownBy w4 v'.ownBlock)(hl:u.ownBlock=v'.ownBlock∨u.ownBlock=some (w.alloc (.cells #[.int .i64 pg] T)).heap.size) :
 w4.frozen? ⟨ch,10,none⟩=false/\w4.cell? ⟨ch,10,none⟩=some v'/\Hid (ZF w0 (w4.setCell ⟨ch,10,none⟩ u) ch st mb M {M' with l:=M'.l++[pg]} v u sv ns SL fs ss/\ZZ w0.heap.size w.heap.size ch mb v' sv u sv fs fs ss ss w (w4.setCell ⟨ch,10,none⟩ u)):=by
 have zl:=h.at_.cells.2.2.2.2.2.2.2.2;have hb4:∀j,j<w.heap.size->v'.ownBlock≠some j->w4.heap[j]?=w.heap[j]?:=fun j hj hne=>(hg.block j (by simp;omega) (fun e=>hne e.symm)).trans (Below.heap_alloc _ _ j hj)
 have hc4:ZcT w4 ch st M.d M.f M.n M.c v M'.d M'.f M'.n M'.c v' mb sv:=(hb4 ch zl h.vch.1).trans h.at_;have hs4:=hg.size;have hsz4:w.heap.size<=w4.heap.size:=ZZf (by simp) hs4
 have hnew:∀g,u.ownBlock=some g->v'.ownBlock=some g∨w.heap.size<=g:=fun g hg2=>by
  rcases hl with a|a
  · exact .inl (by rw[<-a,hg2])
  · rw[hg2]at a;injection a with a;simp at a;exact .inr (by omega)
 have hset:∀j,j≠ch->(w4.setCell ⟨ch,10,none⟩ u).heap[j]?=w4.heap[j]?:=fun j hj=>Below.heap_setCell _ _ _ _ hj
 have hmb:=h.mp.lt
 have huch:u.ownBlock≠some ch:=fun e=>by
  rcases hnew ch e with a|a
  · exact h.vch.1 a
  · omega
 have humb:u.ownBlock≠some mb:=fun e=>by
  rcases hnew mb e with a|a
  · exact h.vch.2 a
  · omega
 have hsz:(w4.setCell ⟨ch,10,none⟩ u).heap.size=w4.heap.size:=by simp[World.setCell]
 refine⟨hc4.frozen 10,hc4.cells.2.2.2.2.2.1,hid ⟨⟨hc4.setV u,h.chn,h.mbn,h.cm,h.was,?_,?_,by simp;omega,?_,h.many,h.len,fun i f s hf hs=>?_,?_,⟨huch,humb⟩,h.sch,?_,?_⟩,⟨⟨hg.os,hg.tape,hg.output,by rw[hsz];exact hsz4,fun k hk hn=>(hset k (fun e=>hn (.inl e))).trans (hb4 k hk (fun e=>hn (.inr (.inr (.inl e)))))⟩,fun k hk=>?_,fun Y hY ha i f s hf hs=>((h.each i f s hf hs).both (ha i f s hf hs)).keep (by rw[hsz];exact hsz4) (fun k hk hn=>(hset k (fun e=>hn (.inl (.inl e)))).trans (hb4 k hk (fun e=>hn (.inl (.inr (.inr (.inl e))))))) (fun k hk hn hy=>hn (.inr hy))⟩⟩⟩
 · have h1:=ZB hown (fun g hg2=>hset g (fun e=>huch (by rw[hg2,e])));simpa using h1
 · intro x hx;rcases List.mem_append.1 hx with a|a
   · exact h.ints x a
   · rw[List.mem_singleton.1 a];exact hp
 · refine ZB h.row (fun g hg2=>(hset g (fun e=>h.sch.1 (by rw[hg2,e]))).trans (hb4 g (ZaM h.row g hg2).2 (fun e=>h.vs g e hg2)))
 · refine(h.each i f s hf hs).keep (by rw[hsz];exact hsz4) (fun k hk hn=>(hset k (fun e=>hn (.inl e))).trans (hb4 k hk (fun e=>hn (.inr (.inr (.inl e)))))) (fun k hk hn hn'=>?_);rcases hn' with a|a|a|a
   · exact hn (.inl a)
   · exact hn (.inr (.inl a))
   · rcases hnew k a with e|e
     · exact hn (.inr (.inr (.inl e)))
     · omega
   · exact hn (.inr (.inr (.inr a)))
 · exact h.mp.of_block ((hset mb (fun e=>h.cm e.symm)).trans (hb4 mb hmb h.vch.2))
 · intro k hk hk';rcases hnew k hk with e|e
   · exact h.vs k e hk'
   · have:=(ZaM h.row k hk').2
     omega
 · refine h.bel.trans ⟨hg.os,hg.tape,hg.output,by rw[hsz];exact hsz4,fun k hk=>?_⟩;have hk2:=ZZd hk h.bel.size;exact(hset k (fun e=>by have:=h.chn;omega)).trans (hb4 k hk2 (fun e=>by have:=(ZaM h.will k e).1;omega))
 · rcases hk with a|a|a|a
   · exact .inl (.inl a)
   · exact .inl (.inr (.inl a))
   · rcases hnew k a with e|e
     · exact .inl (.inr (.inr (.inl e)))
     · exact .inr e
   · exact .inl (.inr (.inr (.inr a)))
theorem Zpq{w:World}{base g:Nat}(h:w.ownsRow base 5 1 (.slice (some ⟨g,0,none⟩) 240 240) 240 (madeCells (Value.int .u8 0).cells (240*1)).toList):RB w w.heap.size (some ⟨g,0,none⟩) 240 (Zcm 240 0):=by
 refine RB.of_own (base:=base) (e:=5) (c:=240) ?_ (fun x hx=>by
  have:=List.eq_of_mem_replicate hx
  omega)
 rw[show(Value.int .u8 0).cells = #[Value.int .u8 0]from rfl,toList_madeCells_one,Nat.mul_one]at h;unfold Zcm;rw[List.map_replicate];exact h
def ZkJ(ch:Nat)(w:World):Nat:=match w.cell? ⟨ch,10,none⟩ with|some (.slice _ n _)=>1000-n|_=>0
theorem Zhm{w:World}{A:Option Addr}{n c:Nat}(h:w.cell? ⟨ch,10,none⟩=some (.slice A n c)):ZkJ ch w=1000-n:=by unfold ZkJ;rw[h]
theorem Zhn(api:Zb D)(hS:SAt D w0 F O p S q seq r b st L)(h:ZF w0 w ch st mb M M' v v' sv ns SL fs ss){M2:MV}{ss':List Stp}(hlen:LenIs S L M' M2 ss')(hm:fs.length+ss'.length<=3999999) :
 Calls prog 93 #[.pointer (some ⟨ch,0,none⟩)] w fun e w'=>e=.returned (.int .i64 0)/\∃v2 sv2 fs2,ZF w0 w' ch st mb M M2 v v2 sv2 ns SL fs2 (ss++ss')/\fs2.length=fs.length+ss'.length/\ZZ w0.heap.size w.heap.size ch mb v' sv v2 sv2 fs fs2 ss (ss++ss') w w':=by
 obtain⟨i0,hi,hz0,hz1,hz2⟩:=info_parts ZfW;obtain⟨j0,hj,hy0,hy1,hy2⟩:=info_parts Zbg;have H0:=hid h;have HL0:=hid hlen;have HS:=hid hS;have HM:=hid hm;clear h hlen hS hm;go_enter func93,ntmps93;go_wp2_with fail
 go_loopw[3] (fun pv wr=>∃(Mk:MV) (vk svk:Value) (fsk:List Value) (ssk rest:List Stp),Hid (ZF w0 wr ch st mb M Mk v vk svk ns SL fsk ssk)/\Hid (LenIs S L Mk M2 rest/\ssk++rest=ss++ss'/\fsk.length+rest.length=fs.length+ss'.length)/\Hid (ZZ w0.heap.size w.heap.size ch mb v' sv vk svk fs fsk ss ssk w wr)) (fun _ wr=>ZkJ ch wr)
 case atStart=>exact⟨M',v',sv,fs,ss,ss',H0,hid ⟨HL0.out,rfl,rfl⟩,hid (ZZ.below (Below.refl _ _))⟩
 case round=>
  obtain⟨Mk,vk,svk,fsk,ssk,rest,hg,hrest,hwk⟩:=hrel;obtain⟨A1,c1,rfl,hc1,hri1⟩:=hg.out.ri;obtain⟨_,_,_,_,_,y6,_,_,_,y10,_⟩:=hg.out.at_.cells2;have HND:=hid (Zlj Mk.d wr.drew);have hn18:=Zpp Mk.d;have hfewk:=hg.out.few;have hroom:=hid (Zhm y10);by_cases hlt:Mk.l.length<needD Mk.d
  · have k1:decide (((Mk.l.length:Nat):Int)<((needD Mk.d:Nat):Int))=true:=by simpa using hlt
    obtain⟨M1,pg,rest',hrest',ht,hn,hf,hp,hr⟩:∃M1 pg rest',rest=.lay pg (Zcm 240 0)::rest'/\Zcr S L Mk pg M1/\(0<=Mk.n/\Mk.n<4611686018427387904)/\(-9223372036854775808<=Mk.f/\Mk.f<=9223372036854775807)/\(-9223372036854775808<=pg/\pg<=9223372036854775807)/\LenIs S L {M1 with l:=M1.l++[pg]} M2 rest':=by
     cases hrest.out.1 with
     | done h=>omega
     | more h hn hf ht hp hr=>exact⟨_,_,_,rfl,ht,hn,hf,hp,hr⟩
    subst hrest';have HSM:=hid ht.same;have hl1:M1.l.length<=900:=by rw[HSM.out.1];omega
    have HGD:=hg.out.keep (((Below.refl wr.heap.size wr)).drew);have HTK:=hid (Zjc api HS.out HGD hn hf ht);have HRR:=hid (ZZg hr (ZZg hp hrest.out.2));clear hr hp hn hf ht HGD hri1;go_wp2_with fail
    go_region_held3 (fun W=>W.cell? ⟨ch,10,none⟩=some (.slice A1 Mk.l.length c1)/\W.cell? ⟨ch,6,none⟩=some (.int .i64 Mk.d))
     (first|exact⟨y10,y6⟩)
     (first
      | (go_at_call 150;refine HND.out.mono ?_;rintro e w2 ⟨e1,e2⟩;subst e1;subst e2))
    all_goals
     clear y6 y10 HND;go_wp2_with fail;refine HTK.out.mono ?_;rintro e w3⟨rfl,hg3,hw3⟩;have HWK:=hid (hwk.out.trans ((ZZ.below (((Below.refl wr.heap.size wr)).drew)).trans (hw3.mono hwk.out.touch.size)));clear hw3;obtain⟨_,_,_,_,_,y6,_,_,_,y10,_⟩:=hg3.at_.cells2;have HG3:=hid hg3
     have hbs:w0.heap.size<=(w3.alloc (.cells #[.int .i64 pg] 3)).heap.size:=by
      have:=hg3.bel.size
      simp;omega
     clear hg3 HTK;generalize Value.slice A1 Mk.l.length c1=vk at HG3 y10 HWK
     go_wp2_with (first
      | (at_builtin;refine wpList_append_own_at _ rfl _ _ 39 rfl w0.heap.size 3 i0 (.int .i64 0) 1 8 underlying39 hi hz0 hz1 hz2 rfl (by decide) _ M1.l.length (M1.l.map (Value.int .i64)) rfl (HG3.out.will.alloc _) ⟨w3.heap.size,0,none⟩ 1 1 [.int .i64 pg] rfl rfl (fun j u hj=>World.news_of_block (cs:=#[.int .i64 pg]) (heap_alloc_new _ _) j u hj) (fun u hu=>by rw[List.mem_singleton.1 hu];rfl) (by unfold maxLen;omega) (by omega) hbs ?_;intro v4 w4 hown4 hg4 hx4 hl4;clear hx4;obtain⟨g4,cap4,hv4,_⟩:=hown4.form (Nat.succ_pos _);subst hv4;obtain⟨f10,d10,HP⟩:=Zn7 HG3.out HRR.out.2.1 hl1 hown4 hg4 hl4;clear hown4 hg4 hl4)
      | (refine wpList_make_full _ rfl _ _ 55 rfl (w4.setCell ⟨ch,10,none⟩ (.slice (some ⟨g4,0,none⟩) (M1.l.length+1) cap4)).heap.size 5 j0 (.int .u8 0) 1 underlying55 hj hy0 hy1 .i64 .i64 _ _ 240 rfl rfl (by simp) (by simp) (by rw[hy2];decide) (by decide) (ZZe _) ?_;intro w6 hown6 hg6;have hb6:=(Below.refl (w4.setCell ⟨ch,10,none⟩ (.slice (some ⟨g4,0,none⟩) (M1.l.length+1) cap4)).heap.size (w4.setCell ⟨ch,10,none⟩ (.slice (some ⟨g4,0,none⟩) (M1.l.length+1) cap4))).grown hg6 (ZZe _) (by simp);have hr6:=Zpq hown6;clear hown6 hg6))
     have HLAY:=hid (ZqB (HP.out.1.keep hb6) pg HRR.out.2.1 (ZZe 240) (by decide) (Z:=w.heap.size) (ZZf (HWK.out.trans (HP.out.2.mono HWK.out.touch.size)).touch.size hb6.size) (fun a ha _=>by cases ha;exact(HWK.out.trans (HP.out.2.mono HWK.out.touch.size)).touch.size) ⟨hr6,fun a ha hn hgx=>by
      cases ha;rcases hgx with e|e
      · have h2:=(HP.out.1.lt _ e).2;have h2:(w4.setCell ⟨ch,10,none⟩ (.slice (some ⟨g4,0,none⟩) (M1.l.length+1) cap4)).heap.size<(w4.setCell ⟨ch,10,none⟩ (.slice (some ⟨g4,0,none⟩) (M1.l.length+1) cap4)).heap.size:=h2;omega
      · have h3:=HP.out.1.bel.size;have e:(w4.setCell ⟨ch,10,none⟩ (.slice (some ⟨g4,0,none⟩) (M1.l.length+1) cap4)).heap.size<w0.heap.size:=e
        omega⟩ (by have h4:=HRR.out.2.2.2;have:=HM.out;simp at h4;omega))
     have hsz5:(w4.setCell ⟨ch,10,none⟩ (.slice (some ⟨g4,0,none⟩) (M1.l.length+1) cap4)).heap.size=w4.heap.size:=by simp[World.setCell]
     rw[hsz5]at HLAY;have HW6:=hid (HWK.out.trans ((HP.out.2.mono HWK.out.touch.size).trans (ZZ.below hb6)));clear hb6 hr6 HG3 hbs hsz5;go_wp2_with fail;refine HLAY.out.mono ?_;rintro e w7⟨rfl,sv7,f7,hg7,hw7⟩;have HG7:=hid hg7;have HW7:=hid (HW6.out.trans hw7);clear hg7 hw7 HLAY HP HW6 HWK;go_wp2;go_roundw
     case rel=>exact⟨_,_,_,_,_,rest',HG7,hid ⟨HRR.out.1,by rw[List.append_assoc];exact HRR.out.2.2.1,by have h4:=HRR.out.2.2.2;simp at h4 ⊢;omega⟩,HW7⟩
     case measure=>
      obtain⟨_,_,_,_,_,_,_,_,_,y10',_⟩:=HG7.out.at_.cells2;rw[Zhm y10',hroom.out]
      have:=HSM.out.1
      rw[this];omega
  · have k1:decide (((Mk.l.length:Nat):Int)<((needD Mk.d:Nat):Int))=false:=by simpa using hlt
    obtain⟨hrest',hMM⟩:rest = []/\Mk=M2:=by
     cases hrest.out.1 with
     | done h=>exact⟨rfl,rfl⟩
     | more h hn hf ht hp hr=>exact absurd h hlt
    subst hrest';subst hMM
    have HE:=hid (show ∃v2 sv2 fs2,ZF w0 wr.drew ch st mb M Mk v v2 sv2 ns SL fs2 (ss++ss')/\fs2.length=fs.length+ss'.length/\ZZ w0.heap.size w.heap.size ch mb v' sv v2 sv2 fs fs2 ss (ss++ss') w wr.drew from⟨_,_,_,by
     have h1:=hg.out.keep (((Below.refl wr.heap.size wr)).drew);rw[<-hrest.out.2.1,List.append_nil];exact h1,by have:=hrest.out.2.2;simpa using this,by
     rw[<-hrest.out.2.1,List.append_nil]
     exact hwk.out.trans (ZZ.below (((Below.refl wr.heap.size wr)).drew))⟩)
    clear hri1 hrest hg;go_wp2_with fail
    go_region_held3 (fun W=>W.cell? ⟨ch,10,none⟩=some (.slice A1 Mk.l.length c1)/\W.cell? ⟨ch,6,none⟩=some (.int .i64 Mk.d))
     (first|exact⟨y10,y6⟩)
     (first
      | (go_at_call 150;refine HND.out.mono ?_;rintro e w2 ⟨e1,e2⟩;subst e1;subst e2))
    all_goals
     go_wp2;go_ret;exact⟨rfl,HE.out⟩
end
def ZeF(S:DS)(L:List (Int×List Int))(M:MV)(SL:Int->Option Int)(slot pg:Int):Prop:=
 SL slot=some pg∨(SL slot=none/\Zaz S L M.d M.l.length M.l slot=(pg,0))
section
variable{D:World->(Nat->Prop)->Addr->DS->Prop}{w0 w w':World}{F O:Nat->Prop}{p:Addr}{S:DS}{q r b st ch mb:Nat}{seq:Int}{L:List (Int×List Int)}{M M':MV}{v v' sv:Value}{ns:Nat}{SL:Int->Option Int}{fs:List Value}{ss:List Stp}
theorem Zlu(api:Zb D)(hS:SAt D w0 F O p S q seq r b st L)(h:ZF w0 w ch st mb M M' v v' sv ns SL fs ss){slot pg:Int}(hs : -9223372036854775808<=slot/\slot<=9223372036854775807)(hp:ZeF S L M SL slot pg) :
 Calls prog 247 #[.pointer (some ⟨ch,0,none⟩),.int .i64 slot] w fun e w'=>e=.returned (.tuple #[.int .i64 pg,.int .i64 0])/\Below w.heap.size w w':=by
 have hS':=hS.below api h.bel;have hz:(zeroValue 3).run prog w=.ok (.int .i64 0) w:=by kernel_rfl
 have hlook:=h.mp.look (t:=202) underlying202 hz hs;have ym:=h.at_.cells.2.2.2.2.2.2.1;rcases hp with e1|⟨e0,e1⟩
 · rw[e1]at hlook;clear h hS hS' hz;go_enter func247,ntmps247;go_wp2_with fail;go_ret2;exact⟨rfl,Below.refl _ _⟩
 · rw[e0]at hlook;obtain⟨A,k,c,rfl,hkc,hk1,hri⟩:=h.was;have hkl:k=M.l.length:=hri.len.symm;have hd:Below w.heap.size w w.drew:=(Below.refl _ _).drew;have hS2:=hS'.below api hd;have HDG:=hid (ZeX (w:=w.drew) api hS2.pg hS2.tab hS2.len M.d M.f M.n M.c (cap:=c) slot (((hri.below h.bel).more h.bel.size).below hd) (ZZe _) hkc (by unfold maxLen;omega));rw[<-hkl]at e1;rw[e1]at HDG;have HDD:=hid hd;obtain⟨x0,_⟩:=h.at_.cells;obtain⟨x1,x2,x3,x4,x5,_⟩:=h.at_.cells2;have xs:=hS'.sto.cell
   have HC:=hid (show ∀w2,Below w.drew.heap.size w.drew w2->w2.cell? ⟨ch,0,none⟩=some (.pointer (some ⟨st,0,none⟩))/\w2.cell? ⟨st,0,none⟩=some (.pointer (some ⟨r,0,none⟩))/\w2.cell? ⟨ch,1,none⟩=some (.int .i64 M.d)/\w2.cell? ⟨ch,2,none⟩=some (.int .i64 M.f)/\w2.cell? ⟨ch,3,none⟩=some (.int .i64 M.n)/\w2.cell? ⟨ch,4,none⟩=some (.int .i64 M.c)/\w2.cell? ⟨ch,5,none⟩=some (.slice A k c)from fun w2 hb=>by
    have h2:=(h.keep (hd.trans hb))
    obtain⟨y0,_⟩:=h2.at_.cells;obtain⟨y1,y2,y3,y4,y5,_⟩:=h2.at_.cells2
    exact⟨y0,(hS.below api h2.bel).sto.cell,y1,y2,y3,y4,y5⟩)
   clear h hS hS' hS2 hz hri hd hkl;go_enter func247,ntmps247;go_wp2_with fail
   go_region_held3 (fun W=>W.cell? ⟨ch,0,none⟩=some (.pointer (some ⟨st,0,none⟩))/\W.cell? ⟨st,0,none⟩=some (.pointer (some ⟨r,0,none⟩))/\W.cell? ⟨ch,1,none⟩=some (.int .i64 M.d)/\W.cell? ⟨ch,2,none⟩=some (.int .i64 M.f)/\W.cell? ⟨ch,3,none⟩=some (.int .i64 M.n)/\W.cell? ⟨ch,4,none⟩=some (.int .i64 M.c)/\W.cell? ⟨ch,5,none⟩=some (.slice A k c))
    (first|with_reducible exact z2|exact⟨x0,xs,x1,x2,x3,x4,x5⟩)
    (first
     | (go_at_call 108;refine HDG.out.mono ?_;rintro e w2 ⟨rfl,hb2⟩;have z2:=HC.out w2 hb2))
   all_goals
    have HE:=hid (HDD.out.trans hb2);clear hb2 z2;go_wp2;go_ret2;exact⟨rfl,HE.out⟩
end
def ZdE(N:Nat)(pgs:Nat->Int)(k:Nat)(SL:Int->Option Int):Int->Option Int:=fun i=>if(N:Int)<=i/\i<((N+k:Nat):Int)then some (pgs (i-(N:Int)).toNat)else SL i
def Zej(N:Nat)(pgs:Nat->Int)(k:Nat):List Stp:=(List.range k).map (fun j=>Stp.pt ((N+j:Nat):Int) (pgs j))
theorem ZmB(N:Nat)(pgs:Nat->Int)(SL:Int->Option Int):ZdE N pgs 0 SL=SL:=by
 funext i
 unfold ZdE;rw[if_neg (by omega)]
theorem ZmC(N:Nat)(pgs:Nat->Int)(k:Nat)(SL:Int->Option Int):(fun i=>if i=((N+k:Nat):Int)then some (pgs k)else ZdE N pgs k SL i)=ZdE N pgs (k+1) SL:=by
 funext i
 unfold ZdE;by_cases h:i=((N+k:Nat):Int)
 · rw[if_pos h,if_pos (by omega)]
   congr 2
   omega
 · rw[if_neg h];by_cases h2:(N:Int)<=i/\i<((N+k:Nat):Int)
   · rw[if_pos h2,if_pos (by omega)]
   · rw[if_neg h2,if_neg (by omega)]
theorem Zjd(N:Nat)(pgs:Nat->Int)(k:Nat)(SL:Int->Option Int){i:Int}(h:i<(N:Int)):ZdE N pgs k SL i=SL i:=by
 unfold ZdE;rw[if_neg (by omega)]
theorem Zho(N:Nat)(pgs:Nat->Int)(k:Nat):Zej N pgs (k+1)=Zej N pgs k++[Stp.pt ((N+k:Nat):Int) (pgs k)]:=by
 unfold Zej;rw[List.range_succ,List.map_append];rfl
section
variable{D:World->(Nat->Prop)->Addr->DS->Prop}{w0 w w':World}{F O:Nat->Prop}{p:Addr}{S:DS}{q r b st ch mb:Nat}{seq:Int}{L:List (Int×List Int)}{M M':MV}{v v' sv:Value}{ns:Nat}{SL:Int->Option Int}{fs:List Value}{ss:List Stp}
theorem Zpr(api:Zb D)(hS:SAt D w0 F O p S q seq r b st L)(h:ZF w0 w ch st mb M M' v v' sv ns SL fs ss)(hd:0<=M'.d/\M'.d<=9){M2:MV}{ss1:List Stp}(hlen:LenIs S L {M' with d:=M'.d+1} M2 ss1)(pgs:Nat->Int)(hpg:∀k:Nat,k<2^ZA M'.d->ZeF S L M SL (k:Int) (pgs k)/\-9223372036854775808<=pgs k/\pgs k<=9223372036854775807)(hm:fs.length+ss1.length+1024<=3999999)(hns:ns+1024<=3999999) :
 Calls prog 237 #[.pointer (some ⟨ch,0,none⟩)] w fun e w'=>e=.returned (.int .i64 0)/\∃v2 sv2 fs2,ZF w0 w' ch st mb M M2 v v2 sv2 (ns+2^ZA M'.d) (ZdE (2^ZA M'.d) pgs (2^ZA M'.d) SL) fs2 (ss++ss1++Zej (2^ZA M'.d) pgs (2^ZA M'.d))/\fs2.length=fs.length+ss1.length+2^ZA M'.d/\ZZ w0.heap.size w.heap.size ch mb v' sv v2 sv2 fs fs2 ss (ss++ss1++Zej (2^ZA M'.d) pgs (2^ZA M'.d)) w w':=by
 have hsh:=Zq6 (d:=M'.d) ⟨hd.1,by omega⟩;have hpw:=Zeb M'.d;obtain⟨_,_,_,_,_,y6,_⟩:=h.at_.cells2;have f6:=h.at_.frozen 6;have HLN:=hid (Zhn api hS (h.setDepth (M'.d+1)) hlen (by omega));have HCW:=hid (ZZ.cell (Z:=w.heap.size) h 6 (.int .i64 (M'.d+1)));generalize 2^ZA M'.d=N at *;have HPG:=hid hpg;have HS:=hid hS;obtain⟨hd0,hd9⟩:=hd;clear h hlen hpg hS;go_enter func237,ntmps237;go_wp2_with fail;refine HLN.out.mono ?_;rintro e w1⟨rfl,v2,sv2,fs2,hg,hfl,hw1⟩;have HW1:=hid (HCW.out.trans (hw1.mono HCW.out.touch.size));clear hw1;have HG:=hid hg;have HFL:=hid hfl;simp only[hsh];clear hg hfl HLN hsh y6 f6;go_wp2
 go_loopw[29] (fun i wr=>∃(k:Nat) (svk:Value) (fsk:List Value),k<=N/\i=.int .i64 k/\Hid (ZF w0 wr ch st mb M M2 v v2 svk (ns+k) (ZdE N pgs k SL) fsk (ss++ss1++Zej N pgs k))/\Hid (fsk.length=fs.length+ss1.length+k)/\Hid (ZZ w0.heap.size w.heap.size ch mb v' sv v2 svk fs fsk ss (ss++ss1++Zej N pgs k) w wr)) (fun i _=>N-(intOf i).toNat)
 case atStart=>exact⟨0,sv2,fs2,Nat.zero_le _,rfl,by rw[ZmB];unfold Zej;simpa using HG,HFL,by unfold Zej;simpa using HW1⟩
 case round=>
  obtain⟨k,svk,fsk,hk,rfl,hg,hfl,hwk⟩:=hrel;by_cases hlt:k<N
  · have k1:decide (((k:Nat):Int)<((N:Nat):Int))=true:=by simpa using hlt
    have hp:=HPG.out k hlt
    have HPO:=hid (Zlu (slot:=(k:Int)) (pg:=pgs k) api HS.out hg.out (by omega) (by
     rcases hp.1 with a|⟨a,a2⟩
     · exact .inl (by rw[Zjd N pgs k SL (by omega)];exact a)
     · exact .inr ⟨by rw[Zjd N pgs k SL (by omega)];exact a,a2⟩))
    have HPR:=hid hp.2;clear hp;go_wp2_with fail;refine HPO.out.mono ?_;rintro e w2⟨rfl,hb2⟩;have HPT:=hid (ZkH (hg.out.keep hb2) ((N:Int)+(k:Int)) (pgs k) (by omega) HPR.out (by have:=hfl.out;omega) (by omega));have e1:wrap64 ((N:Int)+(k:Int))=(N:Int)+(k:Int):=by unfold wrap64;omega
    have HW2:=hid (hwk.out.trans (ZZ.below hb2));clear hb2 HPO;go_wp2_with fail;refine HPT.out.mono ?_;rintro e w3⟨rfl,svn,fn,hgn,hwn⟩
    have HW3:=hid (show ZZ w0.heap.size w.heap.size ch mb v' sv v2 svn fs (fsk++[fn]) ss (ss++ss1++Zej N pgs (k+1)) w w3 from by
     rw[Zho,<-List.append_assoc,show((N+k:Nat):Int)=(N:Int)+(k:Int) by omega]
     exact HW2.out.trans (hwn.mono HW2.out.touch.size))
    clear hwn HW2
    have HGN:=hid (show ZF w0 w3 ch st mb M M2 v v2 svn (ns+(k+1)) (ZdE N pgs (k+1) SL) (fsk++[fn]) (ss++ss1++Zej N pgs (k+1))from by
     rw[<-ZmC,Zho,<-List.append_assoc,show((N+k:Nat):Int)=(N:Int)+(k:Int) by omega]
     exact hgn)
    clear hgn HPT e1;go_wp2;go_roundw
    case rel=>exact⟨k+1,svn,fsk++[fn],by omega,by go_num,HGN,hid (by have:=hfl.out;simp;omega),HW3⟩
    case measure=>simp[intOf];omega
  · obtain rfl:k=N:=by omega
    go_wp2;go_ret;exact⟨rfl,v2,svk,fsk,hg.out,hfl.out,hwk.out⟩
end
end Go.Proofs.YtlmkdmdbpopnhaaGreatDoor
